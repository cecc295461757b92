package fit_test

import (
	"math"
	"math/rand"
	"slices"
	"testing"

	"aircheck/api"
	"aircheck/fit"
)

// This file has what the tests share: the chapter's words as slow functions, pieces to try, and checks against those words.

// definedAsPieces reports whether l and total are valid together in the words of the chapter.
func definedAsPieces(l []api.Piece, total int) bool {
	if len(l) > 20 || total < 0 || total > 3600 {
		return false
	}
	for _, p := range l {
		if len(p.Lengths) == 0 || len(p.Lengths) > 8 || p.Want < 0 || p.Want > 3600 || p.Join < -1 || p.Join > 3600 {
			return false
		}
		for k, length := range p.Lengths {
			if length < 0 || length > 3600 || slices.ContainsFunc(p.Lengths[:k], func(n int) bool { return n >= length }) {
				return false
			}
		}
	}
	return true
}

// sum returns the sum of l.
func sum(l []int) int {
	out := 0
	for _, n := range l {
		out += n
	}
	return out
}

// definedCost returns the cost of a choice with these lengths, of which there is one for each piece.
func definedCost(l []api.Piece, lengths []int) int {
	cost := 0
	for k, length := range lengths {
		distance := length - l[k].Want
		if distance < 0 {
			distance = -distance
		}
		cost += distance
	}
	return cost
}

// definedToMeet reports whether the choice meets the joins of the pieces that it has a length for, and that of the next one, if there is one, where the first piece begins at the second first.
func definedToMeet(l []api.Piece, lengths []int, first int) bool {
	for k, p := range l[:min(len(lengths)+1, len(l))] {
		if p.Join != -1 && p.Join != first+sum(lengths[:k]) {
			return false
		}
	}
	return true
}

// choices calls use with each choice for the pieces l, in lexicographic order of the lengths.
func choices(l []api.Piece, use func(lengths []int)) {
	var choose func(lengths []int)
	choose = func(lengths []int) {
		if len(lengths) == len(l) {
			use(lengths)
			return
		}
		for _, length := range l[len(lengths)].Lengths {
			choose(append(slices.Clone(lengths), length))
		}
	}
	choose(nil)
}

// definedAsChoice reports whether lengths is a choice for l.
func definedAsChoice(l []api.Piece, lengths []int) bool {
	if len(lengths) != len(l) {
		return false
	}
	for k, length := range lengths {
		if !slices.Contains(l[k].Lengths, length) {
			return false
		}
	}
	return true
}

// way is a choice and what it costs.
type way struct {
	lengths []int
	cost    int
}

// isBetter reports whether w costs less than v, or as much and comes first.
func (w way) isBetter(v way) bool {
	return w.cost < v.cost || w.cost == v.cost && slices.Compare(w.lengths, v.lengths) < 0
}

// model says how the chapter's words are tried: with all choices one by one, or, where these are too many, from second to second.
type model struct {
	// begins returns, for each index of l and then for the end, the seconds at which it can begin, where the end has this Join.
	begins func(l []api.Piece, end int) [][]int
	// best returns the best choice for l, of which the first piece begins at first, and whether there is one.
	best func(l []api.Piece, first, total int) (way, bool)
}

// oneByOne tries all choices.
var oneByOne = model{
	begins: func(l []api.Piece, end int) [][]int {
		var out [][]int
		for n := range len(l) + 1 {
			var begins []int
			choices(l[:n], func(lengths []int) {
				if at := sum(lengths); definedToMeet(l, lengths, 0) && (n < len(l) || end == -1 || end == at) {
					begins = append(begins, at)
				}
			})
			slices.Sort(begins)
			out = append(out, slices.Compact(begins))
		}
		return out
	},
	best: func(l []api.Piece, first, total int) (way, bool) {
		var out way
		found := false
		choices(l, func(lengths []int) {
			w := way{lengths, definedCost(l, lengths)}
			if first+sum(lengths) == total && definedToMeet(l, lengths, first) && (!found || w.cost < out.cost) {
				out, found = w, true
			}
		})
		return out, found
	},
}

// secondBySecond keeps, for each second, the best way to it.
var secondBySecond = model{
	begins: func(l []api.Piece, end int) [][]int {
		var out [][]int
		for _, ways := range waysTo(append(slices.Clone(l), api.Piece{Join: end}), 0) {
			var begins []int
			for at := range ways {
				begins = append(begins, at)
			}
			slices.Sort(begins)
			out = append(out, begins)
		}
		return out
	},
	best: func(l []api.Piece, first, total int) (way, bool) {
		w, ok := waysTo(append(slices.Clone(l), api.Piece{Join: total}), first)[len(l)][total]
		return w, ok
	},
}

// waysTo returns, for each piece of l, the best way to each second at which it can begin, where the first one begins at first.
func waysTo(l []api.Piece, first int) []map[int]way {
	ways := map[int]way{first: {}}
	var out []map[int]way
	for _, p := range l {
		for at := range ways {
			if p.Join != -1 && p.Join != at {
				delete(ways, at)
			}
		}
		out = append(out, ways)
		next := map[int]way{}
		for at, w := range ways {
			for _, length := range p.Lengths {
				longer := way{append(slices.Clone(w.lengths), length), w.cost + definedCost([]api.Piece{p}, []int{length})}
				if v, ok := next[at+length]; !ok || longer.isBetter(v) {
					next[at+length] = longer
				}
			}
		}
		ways = next
	}
	return out
}

// definedBlame returns what Blame has to return for valid arguments.
func (m model) definedBlame(l []api.Piece, total int) (int, []int) {
	for n, begins := range m.begins(l, total) {
		if len(begins) == 0 {
			free := slices.Clone(l)
			if n < len(l) {
				free[n].Join = -1
			}
			return n, m.begins(free, -1)[n]
		}
	}
	return -1, nil
}

// check fails unless all functions return what the chapter says, for valid l and total.
func (m model) check(t testing.TB, l []api.Piece, total int) {
	t.Helper()
	if !fit.Valid(l, total) {
		t.Fatalf("Valid(%v, %d) is false", l, total)
	}
	for n, want := range m.begins(l, -1) {
		if got, e := fit.Begins(l, n); e != api.OK || !slices.Equal(got, want) {
			t.Fatalf("Begins(%v, %d) = %v, %d; want %v", l, n, got, e, want)
		}
	}
	m.checkSolve(t, l, total)
	n, could := m.definedBlame(l, total)
	if got, list, e := fit.Blame(l, total); e != api.OK || got != n || !slices.Equal(list, could) {
		t.Fatalf("Blame(%v, %d) = %d, %v, %d; want %d, %v", l, total, got, list, e, n, could)
	}
}

// checkSolve fails unless Solve, and Check of what it returns, return what the chapter says, for valid l and total.
func (m model) checkSolve(t testing.TB, l []api.Piece, total int) {
	t.Helper()
	want, ok := m.best(l, 0, total)
	lengths, cost, e := fit.Solve(l, total)
	if e != api.OK && e != api.ErrFit || (e == api.OK) != ok || cost != want.cost || !slices.Equal(lengths, want.lengths) {
		t.Fatalf("Solve(%v, %d) = %v, %d, %d; want %v, %v", l, total, lengths, cost, e, want, ok)
	}
	if ok {
		checkCheck(t, l, total, lengths)
	}
}

// checkCheck fails unless Check returns what the chapter says, whatever its arguments are.
func checkCheck(t testing.TB, l []api.Piece, total int, lengths []int) {
	t.Helper()
	cost := 0
	ok := definedAsPieces(l, total) && definedAsChoice(l, lengths) && definedToMeet(l, lengths, 0) && sum(lengths) == total
	if ok {
		cost = definedCost(l, lengths)
	}
	if got, is := fit.Check(l, total, lengths); got != cost || is != ok {
		t.Fatalf("Check(%v, %d, %v) = %d, %v; want %d, %v", l, total, lengths, got, is, cost, ok)
	}
}

// checkResume fails unless Resume returns what the chapter says, whatever its arguments are.
func (m model) checkResume(t testing.TB, l []api.Piece, total int, took []int) {
	t.Helper()
	var want way
	ok := definedAsPieces(l, total) && len(took) <= len(l) && !slices.ContainsFunc(took, func(n int) bool { return n < 0 || n > 3600 })
	if ok {
		want, ok = m.best(l[len(took):], sum(took), total)
	}
	lengths, cost, e := fit.Resume(l, total, took)
	if e != api.OK && e != api.ErrFit || (e == api.OK) != ok || cost != want.cost || !slices.Equal(lengths, want.lengths) {
		t.Fatalf("Resume(%v, %d, %v) = %v, %d, %d; want %v, %v", l, total, took, lengths, cost, e, want, ok)
	}
}

// refuses fails unless all functions refuse l and total, and Begins refuses l if it is not valid with the total 0.
func refuses(t testing.TB, l []api.Piece, total int) {
	t.Helper()
	if fit.Valid(l, total) {
		t.Errorf("%v and %d are valid", l, total)
	}
	var lengths []int
	for _, p := range l {
		lengths = append(lengths, append(p.Lengths, 0)[0])
	}
	for _, choice := range [][]int{nil, {0}, lengths} {
		if cost, ok := fit.Check(l, total, choice); cost != 0 || ok {
			t.Errorf("Check(%v, %d, %v) = %d, %v", l, total, choice, cost, ok)
		}
		if out, cost, e := fit.Resume(l, total, choice); len(out) != 0 || cost != 0 || e != api.ErrFit {
			t.Errorf("Resume(%v, %d, %v) = %v, %d, %d", l, total, choice, out, cost, e)
		}
	}
	if out, cost, e := fit.Solve(l, total); len(out) != 0 || cost != 0 || e != api.ErrFit {
		t.Errorf("Solve(%v, %d) = %v, %d, %d", l, total, out, cost, e)
	}
	if n, out, e := fit.Blame(l, total); n != 0 || len(out) != 0 || e != api.ErrFit {
		t.Errorf("Blame(%v, %d) = %d, %v, %d", l, total, n, out, e)
	}
	if definedAsPieces(l, 0) {
		return
	}
	for _, n := range []int{-1, 0, 1, len(l) - 1, len(l), len(l) + 1} {
		if out, e := fit.Begins(l, n); len(out) != 0 || e != api.ErrFit {
			t.Errorf("Begins(%v, %d) = %v, %d", l, n, out, e)
		}
	}
}

// example returns the pieces of the chapter's examples, of which the last one has this Join.
func example(join int) []api.Piece {
	return []api.Piece{
		{Lengths: []int{10}, Want: 10, Join: -1},
		{Lengths: []int{170, 200}, Want: 200, Join: -1},
		{Lengths: []int{60, 90, 120}, Want: 90, Join: -1},
		{Lengths: []int{30}, Want: 30, Join: join},
	}
}

// piece returns a piece without a join, of which the first length is wanted.
func piece(lengths ...int) api.Piece {
	return api.Piece{Lengths: lengths, Want: lengths[0], Join: -1}
}

// joined returns p with this Join.
func joined(p api.Piece, join int) api.Piece {
	p.Join = join
	return p
}

// wanting returns p with this Want.
func wanting(p api.Piece, want int) api.Piece {
	p.Want = want
	return p
}

// copyOf returns l in new memory.
func copyOf(l []api.Piece) []api.Piece {
	out := slices.Clone(l)
	for k := range out {
		out[k].Lengths = slices.Clone(out[k].Lengths)
	}
	return out
}

// numbers returns pointers to the numbers of p.
func numbers(p *api.Piece) []*int {
	out := []*int{&p.Want, &p.Join}
	for k := range p.Lengths {
		out = append(out, &p.Lengths[k])
	}
	return out
}

// extremes are numbers around every bound of a piece's numbers and of a total, and far from them.
var extremes = []int{math.MinInt, math.MinInt + 1, -1 << 62, -1 << 32, -1<<32 + 30, -1 << 31, -3601, -3600, -64, -2, -1, 0, 1, 2, 9, 10, 29, 30, 31, 60, 63, 64, 65, 90, 119, 120, 121, 170, 200, 299, 300, 301, 330, 3599, 3600, 3601, 4096, 7200, 72000, 72001, 1 << 31, 1 << 32, 1<<32 + 30, 1<<62 - 1, 1 << 62, math.MaxInt - 1, math.MaxInt}

// anyLengths returns up to most lengths up to greatest, ascending.
func anyLengths(r *rand.Rand, most, greatest int) []int {
	var out []int
	for range 1 + r.Intn(most) {
		out = append(out, r.Intn(greatest+1))
	}
	slices.Sort(out)
	return slices.Compact(out)
}

// anyChoice returns some choice for l.
func anyChoice(r *rand.Rand, l []api.Piece) []int {
	var out []int
	for _, p := range l {
		out = append(out, p.Lengths[r.Intn(len(p.Lengths))])
	}
	return out
}

// anyHour returns this many pieces with lengths up to greatest, a total, and a choice that fits, unless the total or a join of it is greater than an hour.
func anyHour(r *rand.Rand, count, most, greatest int) ([]api.Piece, int, []int) {
	var l []api.Piece
	for range count {
		p := api.Piece{Lengths: anyLengths(r, most, greatest), Join: -1}
		p.Want = r.Intn(greatest + 1)
		if r.Intn(2) == 0 {
			p.Want = p.Lengths[r.Intn(len(p.Lengths))]
		}
		l = append(l, p)
	}
	choice := anyChoice(r, l)
	often := 1 + r.Intn(8)
	for k := range l {
		if r.Intn(often) == 0 {
			l[k].Join = min(sum(choice[:k]), 3600)
		}
	}
	return l, min(sum(choice), 3600), choice
}

// spoil changes a join of l, if it has pieces, or returns another total.
func spoil(r *rand.Rand, l []api.Piece, total int) int {
	if len(l) > 0 && r.Intn(3) > 0 {
		p := &l[r.Intn(len(l))]
		if r.Intn(2) == 0 {
			p.Join = r.Intn(total + 2)
		} else {
			p.Join = min(max(p.Join+r.Intn(5)-2, -1), 3600)
		}
		return total
	}
	return min(max(total+r.Intn(5)-2, 0), 3600)
}
