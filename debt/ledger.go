package debt

import (
	"cmp"
	"maps"
	"slices"

	"aircheck/api"
)

// ledger is what has come of some deeds.
type ledger struct {
	debts map[int]api.Debt // those that are there, by their IDs
	had   map[int]bool     // the IDs of those that are, or were, there
	last  int              // the second of the last deed
	done  int              // how many deeds there are
	sums  api.Sums         // all but Open
}

// act is what deeds of a kind need, besides what all deeds need, and what they do.
type act struct {
	can func(d api.Deed) bool
	do  func(d api.Deed)
}

// newLedger returns the ledger before the first deed.
func newLedger() *ledger {
	return &ledger{debts: map[int]api.Debt{}, had: map[int]bool{}}
}

// refuses reports whether d cannot be the next deed. Otherwise it is done.
func (k *ledger) refuses(d api.Deed) bool {
	a, ok := k.acts()[d.Kind]
	if !ok || k.done == api.MaxDeeds || !isCount(d.Count) || !isSecond(d.At) || d.At < k.last || !a.can(d) {
		return true
	}
	a.do(d)
	k.last = d.At
	k.done++
	return false
}

// acts returns what deeds need and do, by their kinds.
func (k *ledger) acts() map[int]act {
	return map[int]act{
		api.DOwe: {k.canOwe, func(d api.Deed) {
			k.sums.Owed += d.Count
			k.add(api.Debt{ID: d.ID, Contract: d.Contract, Count: d.Count, Due: d.Due})
		}},
		api.DServe: {k.canServe, func(d api.Deed) {
			k.sums.Served += d.Count
			take(k.debts, d.ID, d.Count)
		}},
		api.DMove: {k.canMove, func(d api.Deed) {
			k.sums.Moved += d.Count
			// The debt is gone afterwards if all of it is moved.
			k.add(api.Debt{ID: d.To, Contract: d.Contract, Count: d.Count, Due: k.debts[d.ID].Due})
			take(k.debts, d.ID, d.Count)
		}},
		api.DPay: {k.canPay, func(d api.Deed) {
			k.sums.Paid += d.Count
			take(k.debts, d.ID, d.Count)
		}},
	}
}

func (k *ledger) canOwe(d api.Deed) bool {
	return k.isNew(d.ID) && isContract(d.Contract) && isDeadline(d.Due, d.At) && d.To == 0
}

func (k *ledger) canServe(d api.Deed) bool {
	return k.has(d) && k.isBefore(d) && isBare(d)
}

func (k *ledger) canMove(d api.Deed) bool {
	return k.has(d) && k.isBefore(d) && k.isNew(d.To) && isContract(d.Contract) && d.Contract != k.debts[d.ID].Contract && d.Due == 0
}

func (k *ledger) canPay(d api.Deed) bool {
	return k.has(d) && isBare(d)
}

// isBare reports whether d has none of the fields that say what a new debt is like.
func isBare(d api.Deed) bool {
	return d.To == 0 && d.Contract == 0 && d.Due == 0
}

// isNew reports whether a new debt may have the ID.
func (k *ledger) isNew(id int) bool {
	return isID(id) && !k.had[id]
}

// has reports whether there is as much of the debt as the deed takes, which is at least 1.
func (k *ledger) has(d api.Deed) bool {
	return k.debts[d.ID].Count >= d.Count
}

// isBefore reports whether the deed is done before the debt is due.
func (k *ledger) isBefore(d api.Deed) bool {
	return d.At < k.debts[d.ID].Due
}

// add adds a new debt.
func (k *ledger) add(x api.Debt) {
	k.debts[x.ID] = x
	k.had[x.ID] = true
}

// take takes count airings from the debt with this ID, which is deleted when it is done.
func take(debts map[int]api.Debt, id, count int) {
	x := debts[id]
	x.Count -= count
	debts[id] = x
	if !isOpen(x) {
		delete(debts, id)
	}
}

// open returns the debts that are there, ascending by ID.
func (k *ledger) open() []api.Debt {
	return slices.SortedFunc(maps.Values(k.debts), func(x, y api.Debt) int { return cmp.Compare(x.ID, y.ID) })
}

// total returns the sums of the deeds.
func (k *ledger) total() api.Sums {
	out := k.sums
	for _, x := range k.debts {
		out.Open += x.Count
	}
	return out
}
