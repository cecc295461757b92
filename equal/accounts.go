package equal

import (
	"cmp"
	"slices"

	"aircheck/api"
)

// totals are the weighted seconds that each candidate has had.
type totals struct {
	had [api.MaxCandidates]int
}

// add adds weighted seconds to those of the candidate.
func (t *totals) add(candidate, worth int) {
	t.had[candidate] += worth
}

// accounts are what the candidates have had, and what they may claim.
type accounts struct {
	totals
	candidates int
	open       [api.MaxCandidates][]api.Claim // the open claims of each candidate, the oldest first
}

// accountsAt returns the accounts of n candidates at the second now, or ErrEqual if l is not valid for n candidates, or now is not valid.
func accountsAt(n int, l []api.Appearance, now int) (*accounts, api.Errno) {
	if !Valid(n, l) || !isNow(now) {
		return nil, api.ErrEqual
	}
	a := &accounts{candidates: n}
	for index, x := range l {
		if x.At <= now {
			a.appear(index, x)
		}
	}
	return a, api.OK
}

// appear adds an appearance with this index: it serves claims of its candidate, and the others may claim what is left of it.
func (a *accounts) appear(index int, x api.Appearance) {
	worth := x.Seconds * x.Weight
	a.add(x.Candidate, worth)
	left := a.serve(x.Candidate, worth)
	if left == 0 {
		return
	}
	for other := range a.candidates {
		if other != x.Candidate {
			a.open[other] = append(a.open[other], api.Claim{Candidate: other, Of: index, Rest: left, Until: x.At + api.WeekSeconds})
		}
	}
}

// serve uses weighted seconds of the candidate for its open claims, the oldest first, and returns those that are left.
func (a *accounts) serve(candidate, worth int) int {
	var rest []api.Claim
	for _, c := range a.open[candidate] {
		used := min(c.Rest, worth)
		worth -= used
		c.Rest -= used
		if c.Rest > 0 {
			rest = append(rest, c)
		}
	}
	a.open[candidate] = rest
	return worth
}

// owed returns the weighted seconds that the candidate may claim.
func (a *accounts) owed(candidate int) int {
	sum := 0
	for _, c := range a.open[candidate] {
		sum += c.Rest
	}
	return sum
}

// claims returns the open claims of all candidates, in the order in which they were added.
func (a *accounts) claims() []api.Claim {
	out := slices.Concat(a.open[:]...)
	slices.SortFunc(out, func(x, y api.Claim) int {
		return cmp.Or(cmp.Compare(x.Of, y.Of), cmp.Compare(x.Candidate, y.Candidate))
	})
	return out
}
