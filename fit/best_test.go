package fit_test

import (
	"math/rand"
	"slices"
	"testing"

	"aircheck/api"
	"aircheck/fit"
	"aircheck/item"
)

// P10.1: Solve

func TestSolveOfExamples(t *testing.T) {
	for _, c := range []struct {
		l     []api.Piece
		total int
		want  []int
		cost  int
		e     api.Errno
	}{
		{example(300), 330, []int{10, 200, 90, 30}, 0, api.OK},
		{example(300), 340, nil, 0, api.ErrFit},
		{example(305), 330, nil, 0, api.ErrFit},
		{example(330), 360, []int{10, 200, 120, 30}, 30, api.OK},
		{example(240), 270, []int{10, 170, 60, 30}, 60, api.OK},
		{example(-1), 330, []int{10, 200, 90, 30}, 0, api.OK},
		{nil, 0, nil, 0, api.OK},
		{nil, 1, nil, 0, api.ErrFit},
		{nil, 3600, nil, 0, api.ErrFit},
		{[]api.Piece{joined(piece(0), 1)}, 1, nil, 0, api.ErrFit},
		{[]api.Piece{joined(piece(3600), 0), joined(piece(0), 3600)}, 3600, []int{3600, 0}, 0, api.OK},
		{[]api.Piece{joined(piece(3600), 0), joined(piece(0, 1), 3600)}, 3599, nil, 0, api.ErrFit},
		// of the same cost, the first one: lower or greater than what is wanted
		{[]api.Piece{wanting(piece(1, 3), 2), wanting(piece(1, 3), 2)}, 4, []int{1, 3}, 2, api.OK},
		{[]api.Piece{wanting(piece(0, 1, 2, 3), 1), wanting(piece(0, 1, 2, 3), 1), wanting(piece(0, 1, 2, 3), 1)}, 5, []int{1, 1, 3}, 2, api.OK},
		{[]api.Piece{wanting(piece(0, 1, 2, 3), 2), wanting(piece(0, 1, 2, 3), 2), wanting(piece(0, 1, 2, 3), 2)}, 3, []int{0, 1, 2}, 3, api.OK},
		// the first length that is nearest to its Want is not that of the best choice
		{[]api.Piece{wanting(piece(5, 10), 9), wanting(piece(0, 10), 10)}, 15, []int{5, 10}, 4, api.OK},
		{[]api.Piece{wanting(piece(5, 10), 9), wanting(piece(5, 10), 9), wanting(piece(5, 10), 5)}, 25, []int{10, 10, 5}, 2, api.OK},
		// the least cost would miss a join
		{[]api.Piece{wanting(piece(5, 10), 5), wanting(piece(5, 10), 10), joined(piece(1), 20)}, 21, []int{10, 10, 1}, 5, api.OK},
		{[]api.Piece{wanting(piece(5, 10), 5), joined(wanting(piece(5, 10), 10), 10), piece(0, 5)}, 20, []int{10, 10, 0}, 5, api.OK},
		// a Want that no length has, or is far away
		{[]api.Piece{wanting(piece(0, 3600), 1800), wanting(piece(0, 3600), 1801)}, 3600, []int{0, 3600}, 3599, api.OK},
		{[]api.Piece{wanting(piece(0), 3600), wanting(piece(3600), 0)}, 3600, []int{0, 3600}, 7200, api.OK},
	} {
		if lengths, cost, e := fit.Solve(c.l, c.total); e != c.e || cost != c.cost || !slices.Equal(lengths, c.want) {
			t.Errorf("Solve(%v, %d) = %v, %d, %d; want %v, %d, %d", c.l, c.total, lengths, cost, e, c.want, c.cost, c.e)
		}
		oneByOne.check(t, c.l, c.total)
	}
}

// P10.1: Blame

func TestBlameOfExamples(t *testing.T) {
	for _, c := range []struct {
		l     []api.Piece
		total int
		n     int
		could []int
	}{
		{example(300), 330, -1, nil},
		{example(300), 340, 4, []int{330}},
		{example(305), 330, 3, []int{240, 270, 300, 330}},
		{example(305), 335, 3, []int{240, 270, 300, 330}},
		{example(-1), 331, 4, []int{270, 300, 330, 360}},
		{nil, 0, -1, nil},
		{nil, 1, 0, []int{0}},
		{[]api.Piece{joined(piece(5), 1)}, 6, 0, []int{0}},
		{[]api.Piece{joined(piece(5), 0)}, 6, 1, []int{5}},
		// of several joins that cannot be met, the first one; also where the end cannot be met
		{[]api.Piece{piece(5, 7), joined(piece(5), 6), joined(piece(1), 4)}, 0, 1, []int{5, 7}},
		{[]api.Piece{piece(5, 7), joined(piece(5), 7), joined(piece(1), 4)}, 13, 2, []int{12}},
		// each join can be met, but not both
		{[]api.Piece{piece(1, 2), joined(piece(1, 2), 2), joined(piece(3), 2)}, 5, 2, []int{3, 4}},
		// a piece that has to begin after the hour, and one that could only do so
		{[]api.Piece{piece(3600), piece(3600), joined(piece(0), 3600)}, 3600, 2, []int{7200}},
		{slices.Repeat([]api.Piece{piece(3600)}, 20), 3600, 20, []int{72000}},
	} {
		n, could, e := fit.Blame(c.l, c.total)
		if n != c.n || !slices.Equal(could, c.could) || e != api.OK {
			t.Errorf("Blame(%v, %d) = %d, %v, %d; want %d, %v", c.l, c.total, n, could, e, c.n, c.could)
		}
		oneByOne.check(t, c.l, c.total)
	}
}

// P10.1: Resume

func TestResumeOfExamples(t *testing.T) {
	for _, c := range []struct {
		join, total int
		took        []int
		want        []int
		cost        int
		e           api.Errno
	}{
		{300, 330, nil, []int{10, 200, 90, 30}, 0, api.OK},
		{300, 330, []int{}, []int{10, 200, 90, 30}, 0, api.OK},
		{300, 330, []int{10, 230}, []int{60, 30}, 30, api.OK},
		{300, 330, []int{10, 260}, nil, 0, api.ErrFit},
		{300, 330, []int{10, 231}, nil, 0, api.ErrFit},
		{300, 330, []int{100, 140}, []int{60, 30}, 30, api.OK},
		{300, 330, []int{40}, []int{170, 90, 30}, 30, api.OK},
		{300, 330, []int{0, 0, 300}, []int{30}, 0, api.OK},
		{300, 330, []int{0, 0, 299}, nil, 0, api.ErrFit},
		{-1, 330, []int{0, 0, 299}, nil, 0, api.ErrFit},
		{-1, 329, []int{0, 0, 299}, []int{30}, 0, api.OK},
		// a join that is over need not have been met
		{300, 330, []int{0, 0, 0, 330}, nil, 0, api.OK},
		{305, 330, []int{0, 0, 0, 330}, nil, 0, api.OK},
		{305, 330, []int{0, 0, 0, 331}, nil, 0, api.ErrFit},
		{305, 330, []int{0, 0, 0, 329}, nil, 0, api.ErrFit},
		{305, 335, []int{0, 0, 305}, []int{30}, 0, api.OK},
		{300, 330, []int{0, 0, 0, 0}, nil, 0, api.ErrFit},
		{300, 0, []int{0, 0, 0, 0}, nil, 0, api.OK},
		{300, 330, []int{0, 0, 0, 330, 0}, nil, 0, api.ErrFit},
		{300, 3600, []int{3600, 3600, 3600, 3600}, nil, 0, api.ErrFit},
		{300, 3600, []int{3600, 0, 0, 0}, nil, 0, api.OK},
	} {
		l := example(c.join)
		if lengths, cost, e := fit.Resume(l, c.total, c.took); e != c.e || cost != c.cost || !slices.Equal(lengths, c.want) {
			t.Errorf("Resume(%v, %d, %v) = %v, %d, %d; want %v, %d, %d", l, c.total, c.took, lengths, cost, e, c.want, c.cost, c.e)
		}
		oneByOne.checkResume(t, l, c.total, c.took)
	}
	if lengths, cost, e := fit.Resume(nil, 0, nil); len(lengths) != 0 || cost != 0 || e != api.OK {
		t.Errorf("Resume of no pieces = %v, %d, %d", lengths, cost, e)
	}
	// Joins of pieces that are over, at which these could not begin, and lengths that they do not have.
	l := []api.Piece{joined(piece(1, 2), 7), joined(piece(5), 3), joined(wanting(piece(0, 3), 2), 40), piece(60, 63)}
	if lengths, cost, e := fit.Resume(l, 103, []int{39, 1}); !slices.Equal(lengths, []int{3, 60}) || cost != 1 || e != api.OK {
		t.Errorf("Resume(%v) = %v, %d, %d", l, lengths, cost, e)
	}
}

func TestEveryNumberThatWasTakenIsChecked(t *testing.T) {
	for count := 1; count <= 4; count++ {
		for place := range count {
			for _, n := range extremes {
				took := make([]int, count)
				took[place] = n
				oneByOne.checkResume(t, example(300), 330, took)
				oneByOne.checkResume(t, example(-1), 3600, took)
				// Their sum can wrap around, or be within the hour, where they are not.
				took[(place+1)%count] = 210 - n
				oneByOne.checkResume(t, example(-1), 330, took)
			}
		}
	}
	for n := range 30 {
		oneByOne.checkResume(t, example(-1), 0, make([]int, n))
		oneByOne.checkResume(t, nil, 0, make([]int, n))
	}
	oneByOne.checkResume(t, example(-1), 0, make([]int, 100000))
	secondBySecond.checkResume(t, slices.Repeat([]api.Piece{piece(0)}, 20), 3600, slices.Repeat([]int{3600}, 20))
	secondBySecond.checkResume(t, slices.Repeat([]api.Piece{piece(0)}, 20), 3600, slices.Repeat([]int{180}, 20))
}

func TestRandomRests(t *testing.T) {
	r := rand.New(rand.NewSource(110))
	fits := 0
	for range 2000 {
		l, total, took := anyHour(r, r.Intn(7), 4, []int{3, 12, 200}[r.Intn(3)])
		took = took[:r.Intn(len(l)+1)]
		for range r.Intn(3) {
			if len(took) > 0 {
				took[r.Intn(len(took))] = r.Intn(20)
			}
		}
		oneByOne.checkResume(t, l, total, took)
		if _, _, e := fit.Resume(l, total, took); e == api.OK {
			fits++
		}
	}
	if fits < 400 || fits > 1900 {
		t.Errorf("%d fit", fits)
	}
	for range 150 {
		l, total, took := anyHour(r, 10+r.Intn(11), 8, 150)
		secondBySecond.checkResume(t, l, total, took[:r.Intn(len(l)+1)])
	}
}

// P10.2 (Theorem): the best

func TestNoChoiceIsBetter(t *testing.T) {
	r := rand.New(rand.NewSource(111))
	ties := 0
	for range 1500 {
		l, total, known := anyHour(r, 1+r.Intn(6), 4, 6)
		lengths, cost, e := fit.Solve(l, total)
		if e != api.OK {
			t.Fatalf("Solve(%v, %d) = %d, but %v fits", l, total, e, known)
		}
		if n, ok := fit.Check(l, total, lengths); n != cost || !ok {
			t.Fatalf("Solve(%v, %d) = %v, %d; Check = %d, %v", l, total, lengths, cost, n, ok)
		}
		best := way{lengths, cost}
		choices(l, func(other []int) {
			n, ok := fit.Check(l, total, other)
			if ok && (way{other, n}).isBetter(best) {
				t.Fatalf("Solve(%v, %d) = %v, %d, but %v costs %d", l, total, lengths, cost, other, n)
			}
			if ok && n == cost && !slices.Equal(other, lengths) {
				ties++
			}
		})
	}
	if ties < 100 {
		t.Errorf("only %d ties", ties)
	}
}

// TestNoExchangeIsBetter tests full hours, in which not all choices can be tried: no other choice of two or three pieces improves the best one.
func TestNoExchangeIsBetter(t *testing.T) {
	r := rand.New(rand.NewSource(112))
	for range 40 {
		l, total, _ := anyHour(r, 20, 8, 170)
		lengths, cost, e := fit.Solve(l, total)
		if n, ok := fit.Check(l, total, lengths); e != api.OK || n != cost || !ok {
			t.Fatalf("Solve(%v, %d) = %v, %d, %d; Check = %d, %v", l, total, lengths, cost, e, n, ok)
		}
		for range 3000 {
			other := slices.Clone(lengths)
			for range 2 + r.Intn(2) {
				k := r.Intn(20)
				other[k] = l[k].Lengths[r.Intn(len(l[k].Lengths))]
			}
			if n, ok := fit.Check(l, total, other); ok && (way{other, n}).isBetter(way{lengths, cost}) {
				t.Fatalf("Solve(%v, %d) = %v, %d, but %v costs %d", l, total, lengths, cost, other, n)
			}
		}
	}
}

// P10.3 (Theorem): the cause

func TestCauses(t *testing.T) {
	r := rand.New(rand.NewSource(113))
	named := map[string]int{}
	for range 3000 {
		l, total, _ := anyHour(r, r.Intn(21), 8, []int{5, 30, 150}[r.Intn(3)])
		for range r.Intn(4) {
			total = spoil(r, l, total)
		}
		_, _, e := fit.Solve(l, total)
		n, could, blamed := fit.Blame(l, total)
		if blamed != api.OK || (e == api.OK) != (n == -1) {
			t.Fatalf("Solve(%v, %d): %d; Blame: %d, %d", l, total, e, n, blamed)
		}
		if n == -1 {
			named["none"]++
			if len(could) != 0 {
				t.Fatalf("Blame(%v, %d) = %d, %v", l, total, n, could)
			}
			continue
		}
		for k := range n {
			if begins, _ := fit.Begins(l, k); len(begins) == 0 {
				t.Fatalf("Blame(%v, %d) = %d, but %d cannot begin, either", l, total, n, k)
			}
		}
		at := total
		if n < len(l) {
			at = l[n].Join
			named["piece"]++
		} else {
			named["end"]++
		}
		if len(could) == 0 || slices.Contains(could, at) {
			t.Fatalf("Blame(%v, %d) = %d, %v", l, total, n, could)
		}
		// Each second is reached by a choice: the pieces before, for an hour that ends there, have a best one.
		for range min(len(could), 5) {
			second := could[r.Intn(len(could))]
			if _, _, e := fit.Solve(l[:n], second); second <= 3600 && e != api.OK {
				t.Fatalf("Blame(%v, %d) = %d, %v: %d is not reached", l, total, n, could, second)
			}
		}
	}
	if named["none"] < 300 || named["piece"] < 300 || named["end"] < 150 {
		t.Errorf("causes: %v", named)
	}
}

// P10.4: step by step

func TestBeginsStepByStep(t *testing.T) {
	r := rand.New(rand.NewSource(114))
	empty := 0
	for range 1500 {
		l, total, _ := anyHour(r, 1+r.Intn(20), 8, []int{5, 60, 300, 3600}[r.Intn(4)])
		if r.Intn(4) == 0 {
			spoil(r, l, total)
		}
		before, e := fit.Begins(l, 0)
		want := []int{0}
		if l[0].Join > 0 {
			want = nil
		}
		if e != api.OK || !slices.Equal(before, want) {
			t.Fatalf("Begins(%v, 0) = %v, %d", l, before, e)
		}
		for n, p := range l {
			var want []int
			for _, at := range before {
				for _, length := range p.Lengths {
					if n+1 == len(l) || l[n+1].Join == -1 || l[n+1].Join == at+length {
						want = append(want, at+length)
					}
				}
			}
			slices.Sort(want)
			next, e := fit.Begins(l, n+1)
			if e != api.OK || !slices.Equal(next, slices.Compact(want)) {
				t.Fatalf("Begins(%v, %d) = %v, %d, after %v", l, n+1, next, e, before)
			}
			before = next
		}
		if len(before) == 0 {
			empty++
		}
	}
	if empty < 50 || empty > 1000 {
		t.Errorf("%d could not end", empty)
	}
}

// P10.5 (Theorem): the rest

func TestResumeAddsUp(t *testing.T) {
	r := rand.New(rand.NewSource(115))
	for range 400 {
		l, total, _ := anyHour(r, r.Intn(21), 8, 170)
		lengths, cost, e := fit.Solve(l, total)
		if e != api.OK {
			t.Fatalf("Solve(%v, %d) = %d", l, total, e)
		}
		for n := range len(l) + 1 {
			rest, more, e := fit.Resume(l, total, lengths[:n])
			if e != api.OK || !slices.Equal(rest, lengths[n:]) || definedCost(l, lengths[:n])+more != cost {
				t.Fatalf("Resume(%v, %d, %v) = %v, %d, %d; Solve = %v, %d", l, total, lengths[:n], rest, more, e, lengths, cost)
			}
		}
	}
}

func TestWhatRemainsIsMet(t *testing.T) {
	r := rand.New(rand.NewSource(116))
	fits := 0
	for range 3000 {
		l, total, choice := anyHour(r, 1+r.Intn(20), 8, 170)
		n := r.Intn(len(l) + 1)
		took := slices.Clone(choice[:n])
		if n > 0 {
			// One took longer, another one perhaps less long.
			took[r.Intn(n)] += r.Intn(30)
			k := r.Intn(n)
			took[k] -= r.Intn(min(took[k], 30) + 1)
		}
		rest, cost, e := fit.Resume(l, total, took)
		if e != api.OK {
			if e != api.ErrFit || len(rest) != 0 || cost != 0 {
				t.Fatalf("Resume(%v, %d, %v) = %v, %d, %d", l, total, took, rest, cost, e)
			}
			continue
		}
		fits++
		at := sum(took)
		for k, p := range l[n:] {
			if p.Join != -1 && p.Join != at || !slices.Contains(p.Lengths, rest[k]) {
				t.Fatalf("Resume(%v, %d, %v) = %v: %d begins at %d", l, total, took, rest, n+k, at)
			}
			at += rest[k]
		}
		if at != total || len(rest) != len(l)-n || cost != definedCost(l[n:], rest) {
			t.Fatalf("Resume(%v, %d, %v) = %v, %d", l, total, took, rest, cost)
		}
	}
	if fits < 500 || fits > 2900 {
		t.Errorf("%d fit", fits)
	}
}

// P10.6: more lengths, and fewer joins

// giveWay gives p a further length, if it has fewer than eight, or no join.
func giveWay(r *rand.Rand, p *api.Piece) {
	switch kind := r.Intn(3); {
	case kind == 0 || len(p.Lengths) == 8:
		p.Join = -1
	case kind == 1:
		p.Lengths = append(p.Lengths, p.Want)
	default:
		p.Lengths = append(p.Lengths, r.Intn(171))
	}
	slices.Sort(p.Lengths)
	p.Lengths = slices.Compact(p.Lengths)
}

func TestMoreLengthsCostNoMore(t *testing.T) {
	r := rand.New(rand.NewSource(117))
	less := 0
	for range 2000 {
		l, total, _ := anyHour(r, 1+r.Intn(20), 1+r.Intn(7), []int{5, 30, 170}[r.Intn(3)])
		for k := range l {
			l[k].Want = min(max(l[k].Want+r.Intn(9)-4, 0), 3600)
		}
		_, before, e := fit.Solve(l, total)
		if e != api.OK {
			t.Fatalf("Solve(%v, %d) = %d", l, total, e)
		}
		after := copyOf(l)
		for range 1 + r.Intn(5) {
			giveWay(r, &after[r.Intn(len(l))])
		}
		_, cost, e := fit.Solve(after, total)
		if e != api.OK || cost > before {
			t.Fatalf("Solve(%v, %d) = %d, %d; of %v it cost %d", after, total, cost, e, l, before)
		}
		if cost < before {
			less++
		}
	}
	if less < 200 {
		t.Errorf("only %d cost less", less)
	}
}

// P10.7: recordings

// anyItem returns a valid item with up to this many seconds and at most three trims, so that it has at most eight lengths.
func anyItem(r *rand.Rand, id, most int) api.Item {
	i := api.Item{ID: id, Kind: api.KTalk, Length: 1 + r.Intn(most)}
	at := 0
	for range r.Intn(4) {
		from := at + r.Intn(most/3+1)
		to := from + 1 + r.Intn(most/4+1)
		if to < i.Length {
			i.Trims = append(i.Trims, api.Spell{From: from, To: to})
		}
		at = to
	}
	return i
}

// recordings returns pieces that have the lengths of the items.
func recordings(t *testing.T, r *rand.Rand, items []api.Item) []api.Piece {
	var l []api.Piece
	for _, i := range items {
		lengths, e := item.Lengths(i)
		if e != api.OK {
			t.Fatalf("Lengths(%v) = %d", i, e)
		}
		l = append(l, api.Piece{Lengths: lengths, Want: lengths[r.Intn(len(lengths))], Join: -1})
	}
	return l
}

func TestRecordingsFillTheHour(t *testing.T) {
	r := rand.New(rand.NewSource(118))
	cuts := 0
	for range 300 {
		var items []api.Item
		for k := range 1 + r.Intn(20) {
			items = append(items, anyItem(r, k, 180))
		}
		l := recordings(t, r, items)
		choice := anyChoice(r, l)
		for k := range l {
			if r.Intn(5) == 0 {
				l[k].Join = sum(choice[:k])
			}
		}
		total := sum(choice)
		lengths, _, e := fit.Solve(l, total)
		if e != api.OK {
			t.Fatalf("Solve(%v, %d) = %d", l, total, e)
		}
		// What is heard: the item and the second of its recording.
		var heard [][2]int
		for k, i := range items {
			cut, e := item.Cut(i, lengths[k])
			if e != api.OK {
				t.Fatalf("Cut(%v, %d) = %d", i, lengths[k], e)
			}
			cuts += len(cut)
			if l[k].Join != -1 && l[k].Join != len(heard) {
				t.Fatalf("%d begins at %d, its join is %d", k, len(heard), l[k].Join)
			}
			for at := 0; ; at++ {
				second, e := item.Place(i, cut, at)
				if e != api.OK {
					break
				}
				heard = append(heard, [2]int{k, second})
			}
		}
		if len(heard) != total {
			t.Fatalf("%v, shortened to %v, fill %d of %d seconds", items, lengths, len(heard), total)
		}
	}
	if cuts < 500 {
		t.Errorf("only %d trims were left out", cuts)
	}
}

// TestRecordingsWithTooManyLengths tests an item that can have more lengths than a piece.
func TestRecordingsWithTooManyLengths(t *testing.T) {
	i := api.Item{Kind: api.KNews, Length: 100, Trims: []api.Spell{{From: 0, To: 1}, {From: 10, To: 12}, {From: 20, To: 24}, {From: 30, To: 38}}}
	lengths, e := item.Lengths(i)
	if e != api.OK || len(lengths) != 16 {
		t.Fatalf("Lengths(%v) = %v, %d", i, lengths, e)
	}
	refuses(t, []api.Piece{{Lengths: lengths, Want: 100, Join: -1}}, 100)
	i.Trims = i.Trims[1:]
	if lengths, _ = item.Lengths(i); len(lengths) != 8 {
		t.Fatalf("Lengths(%v) = %v", i, lengths)
	}
	secondBySecond.check(t, []api.Piece{{Lengths: lengths, Want: 100, Join: -1}}, 90)
}
