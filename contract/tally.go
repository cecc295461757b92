package contract

import (
	"cmp"
	"slices"

	"aircheck/api"
	"aircheck/week"
)

// tally is what counts of some spots of valid contracts.
type tally struct {
	contracts map[int]api.Contract // by their IDs
	spots     []api.Spot           // those that count
	all       map[int]int          // how many of them each contract has
	daily     map[contractDay]int  // how many of them each contract has on each day
}

// contractDay is a day of a contract, which is given by its ID.
type contractDay struct {
	contract, day int
}

// obstacle is what may stand in the way of a spot, and the reason for which the spot does not count then.
type obstacle struct {
	reason int
	stops  func(x api.Spot) bool
}

// tallyOf returns what counts of the valid spots for the valid contracts l, and the indices of the spots that do, in the order in which they are found.
func tallyOf(l []api.Contract, spots []api.Spot) (*tally, []int) {
	t := &tally{map[int]api.Contract{}, nil, map[int]int{}, map[contractDay]int{}}
	for _, c := range l {
		t.contracts[c.ID] = c
	}
	var out []int
	for _, index := range inOrder(spots) {
		if t.reason(spots[index]) == counts {
			t.add(spots[index])
			out = append(out, index)
		}
	}
	return t, out
}

// inOrder returns the indices of spots in the order in which it is found out whether they count.
func inOrder(spots []api.Spot) []int {
	var out []int
	for index := range spots {
		out = append(out, index)
	}
	// The sort has to be stable: of equal spots the first one of the list is the one that counts.
	slices.SortStableFunc(out, func(a, b int) int {
		x, y := spots[a], spots[b]
		return cmp.Or(cmp.Compare(x.At, y.At), cmp.Compare(x.Contract, y.Contract))
	})
	return out
}

// add adds x to what counts.
func (t *tally) add(x api.Spot) {
	t.spots = append(t.spots, x)
	t.all[x.Contract]++
	t.daily[dayOf(x)]++
}

// reason returns the reason for which the valid spot x does not count, or counts.
func (t *tally) reason(x api.Spot) int {
	for _, o := range t.obstacles() {
		if o.stops(x) {
			return o.reason
		}
	}
	return counts
}

// obstacles returns what may stand in the way of a spot, in the order of the reasons. Those behind the first one may be asked only about spots that have a contract.
func (t *tally) obstacles() []obstacle {
	return []obstacle{
		{api.NoContract, func(x api.Spot) bool {
			_, ok := t.contracts[x.Contract]
			return !ok
		}},
		{api.NoWindow, func(x api.Spot) bool {
			window := t.contracts[x.Contract].Window
			return x.At < window.From || x.At >= window.To
		}},
		{api.NoWeek, func(x api.Spot) bool { return !week.In(t.contracts[x.Contract].Week, x.At) }},
		{api.NoTwice, func(x api.Spot) bool { return slices.Contains(t.spots, x) }},
		{api.NoCount, func(x api.Spot) bool { return t.all[x.Contract] >= t.contracts[x.Contract].Count }},
		{api.NoDay, func(x api.Spot) bool { return t.daily[dayOf(x)] >= t.contracts[x.Contract].PerDay }},
		{api.NoGap, func(x api.Spot) bool {
			return slices.ContainsFunc(t.spots, func(other api.Spot) bool { return t.conflict(x, other) })
		}},
	}
}

// conflict reports whether the contracts of two spots compete, and the spots are too near.
func (t *tally) conflict(x, y api.Spot) bool {
	a, b := t.contracts[x.Contract], t.contracts[y.Contract]
	compete := a.Category == b.Category && a.Sponsor != b.Sponsor
	return compete && max(x.At, y.At)-min(x.At, y.At) < max(a.Gap, b.Gap)
}

// dayOf returns the day of x, of its contract.
func dayOf(x api.Spot) contractDay {
	return contractDay{x.Contract, x.At / api.DaySeconds}
}
