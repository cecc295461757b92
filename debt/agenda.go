package debt

import (
	"cmp"
	"slices"

	"aircheck/api"
)

// isOpen reports whether there is something left of d.
func isOpen(d api.Debt) bool {
	return d.Count > 0
}

// byDeadline returns the debts in the order in which they are to be served.
func byDeadline(debts []api.Debt) []api.Debt {
	return slices.SortedFunc(slices.Values(debts), func(x, y api.Debt) int {
		return cmp.Or(cmp.Compare(x.Due, y.Due), cmp.Compare(x.ID, y.ID))
	})
}

// from returns the part of openings, which ascend, that begins at now.
func from(openings []api.Opening, now int) []api.Opening {
	for len(openings) > 0 && openings[0].At < now {
		openings = openings[1:]
	}
	return openings
}

// serve serves the debts of rest, in order, as long as o has room, and returns these servings. What is served is taken from rest.
func serve(rest []api.Debt, o api.Opening) []api.Serving {
	var out []api.Serving
	for k, d := range rest {
		count := min(d.Count, o.Count)
		if count == 0 || o.At >= d.Due {
			continue
		}
		out = append(out, api.Serving{Debt: d.ID, At: o.At, Count: count})
		rest[k].Count -= count
		o.Count -= count
	}
	return out
}

// roomBefore returns how much room the openings before the second due have.
func roomBefore(openings []api.Opening, due int) int {
	room := 0
	for _, o := range openings {
		if o.At < due {
			room += o.Count
		}
	}
	return room
}

// balance is what debts and openings have left after some servings.
type balance struct {
	owed map[int]api.Debt // the debts that are not made good wholly, by their IDs
	room map[int]int      // by the seconds of the openings
}

// newBalance returns the balance before the first serving.
func newBalance(debts []api.Debt, openings []api.Opening) *balance {
	b := &balance{map[int]api.Debt{}, map[int]int{}}
	for _, d := range debts {
		b.owed[d.ID] = d
	}
	for _, o := range openings {
		b.room[o.At] = o.Count
	}
	return b
}

// accepts reports whether s may be a further serving. There is no room where there is no opening, and nothing is owed where there is no debt.
func (b *balance) accepts(s api.Serving) bool {
	d := b.owed[s.Debt]
	return 1 <= s.Count && s.Count <= min(d.Count, b.room[s.At]) && s.At < d.Due
}

// enter adds s, which is accepted.
func (b *balance) enter(s api.Serving) {
	take(b.owed, s.Debt, s.Count)
	b.room[s.At] -= s.Count
}
