package timeline_test

import (
	"math/rand"
	"slices"
	"testing"

	"aircheck/api"
	"aircheck/fit"
	"aircheck/timeline"
)

// This file has the theorems of the chapter as properties, which only compare results of the package's functions with each other.

// ownerAt returns the owner of the second at, which l has.
func ownerAt(t testing.TB, l []api.Span, at int) int {
	t.Helper()
	owner, e := timeline.At(l, at)
	if e != api.OK {
		t.Fatalf("%v has no owner at %d: %d", l, at, e)
	}
	return owner
}

// owned returns the spells that owner has in l.
func owned(t testing.TB, l []api.Span, owner int) []api.Spell {
	t.Helper()
	out, e := timeline.Owned(l, owner)
	if e != api.OK {
		t.Fatalf("of %v: %d", l, e)
	}
	return out
}

// isOwned reports whether one of the spells has the second at.
func isOwned(spells []api.Spell, at int) bool {
	return slices.ContainsFunc(spells, func(s api.Spell) bool { return isIn(at, s.From, s.To) })
}

// put returns l after Put of all spans, in order, and whether that is possible.
func put(l []api.Span, spans ...api.Span) ([]api.Span, bool) {
	for _, s := range spans {
		next, e := timeline.Put(l, s)
		if e != api.OK {
			return nil, false
		}
		l = next
	}
	return l, true
}

// seconds returns the seconds to be looked at: all of a short timeline, otherwise those near to a change, and some others.
func seconds(random *rand.Rand, end int, lists ...[]api.Span) []int {
	var out []int
	if end <= 60 {
		for t := range end {
			out = append(out, t)
		}
		return out
	}
	for _, at := range edges(lists...) {
		for _, t := range []int{at - 1, at} {
			if 0 <= t && t < end {
				out = append(out, t)
			}
		}
	}
	for range 10 {
		out = append(out, random.Intn(end))
	}
	return out
}

// P15.2

func TestEachSecondHasOneOwner(t *testing.T) {
	random := rand.New(rand.NewSource(10))
	for range 300 {
		l := anyLine(random, anyEnd(random))
		spells, sum := map[int][]api.Spell{}, 0
		for owner := range 3000 {
			if own := owned(t, l, owner); len(own) > 0 {
				spells[owner] = own
			}
			for _, s := range spells[owner] {
				sum += s.To - s.From
			}
		}
		if sum != timeline.End(l) {
			t.Fatalf("the owners of %v have %d seconds", l, sum)
		}
		for _, at := range seconds(random, timeline.End(l), l) {
			for owner, own := range spells {
				if isOwned(own, at) != (owner == ownerAt(t, l, at)) {
					t.Fatalf("%d is at %d of %v: %v", owner, at, l, isOwned(own, at))
				}
			}
			if !isOwned(spells[ownerAt(t, l, at)], at) {
				t.Fatalf("nobody is at %d of %v", at, l)
			}
		}
	}
}

func TestEachSecondOfAllSmallTimelinesHasOneOwner(t *testing.T) {
	for _, l := range smallLines(6, 3) {
		for at := range timeline.End(l) {
			for owner := range 5 {
				if isOwned(owned(t, l, owner), at) != (owner == ownerAt(t, l, at)) {
					t.Fatalf("%d is at %d of %v, or is not", owner, at, l)
				}
			}
		}
	}
}

// P15.3

func TestPuttingChangesOnlyTheSpan(t *testing.T) {
	random := rand.New(rand.NewSource(11))
	done := 0
	for range 1500 {
		l := anyLine(random, anyEnd(random))
		s := anySpan(random, l)
		after, ok := put(l, s)
		if !ok {
			continue
		}
		done++
		if !timeline.Valid(after) || timeline.End(after) != timeline.End(l) {
			t.Fatalf("%v became %v", l, after)
		}
		for _, at := range seconds(random, timeline.End(l), l, after) {
			want := s.Owner
			if !isIn(at, s.From, s.To) {
				want = ownerAt(t, l, at)
			}
			if got := ownerAt(t, after, at); got != want {
				t.Fatalf("after %v in %v, %d is at %d", s, l, got, at)
			}
		}
		if again, ok := put(after, s); !ok || !slices.Equal(again, after) {
			t.Fatalf("%v, put twice, made %v of %v", s, again, after)
		}
	}
	if done < 1000 {
		t.Errorf("only %d spans were put", done)
	}
}

func TestSpansWithoutACommonSecondArePutInAnyOrder(t *testing.T) {
	random := rand.New(rand.NewSource(12))
	done := 0
	for range 3000 {
		l := anyLine(random, anyEnd(random))
		x, y := anySpan(random, l), anySpan(random, l)
		if random.Intn(2) == 0 && x.To < timeline.End(l) { // directly behind the other one
			y.From, y.To = x.To, x.To+1+random.Intn(timeline.End(l)-x.To)
		}
		if x.From < y.To && y.From < x.To {
			continue
		}
		one, ok1 := put(l, x, y)
		other, ok2 := put(l, y, x)
		if !ok1 || !ok2 {
			continue
		}
		done++
		if !slices.Equal(one, other) {
			t.Fatalf("%v and %v make %v of %v, or %v", x, y, one, l, other)
		}
	}
	if done < 1000 {
		t.Errorf("only %d pairs were put", done)
	}
}

func TestPuttingBackRestores(t *testing.T) {
	random := rand.New(rand.NewSource(13))
	done := 0
	for range 1500 {
		l := anyLine(random, anyEnd(random))
		s := anySpan(random, l)
		was, e := timeline.Within(l, api.Spell{From: s.From, To: s.To})
		if e != api.OK {
			t.Fatalf("%v within %v: %d", s, l, e)
		}
		if after, ok := put(l, append([]api.Span{s}, was...)...); ok {
			done++
			if !slices.Equal(after, l) {
				t.Fatalf("%v became %v when %v had been put back", l, after, was)
			}
		}
	}
	if done < 1000 {
		t.Errorf("only %d timelines were restored", done)
	}
}

func TestAllSmallPutsObeyTheTheorem(t *testing.T) {
	for _, l := range smallLines(4, 3) {
		end := timeline.End(l)
		var spans []api.Span
		for from := range end {
			for to := from + 1; to <= end; to++ {
				for owner := range 3 {
					spans = append(spans, api.Span{From: from, To: to, Owner: owner})
				}
			}
		}
		for _, x := range spans {
			once, _ := put(l, x)
			twice, _ := put(l, x, x)
			was, _ := timeline.Within(l, api.Spell{From: x.From, To: x.To})
			back, _ := put(once, was...)
			if !slices.Equal(once, twice) || !slices.Equal(back, l) {
				t.Fatalf("%v in %v: %v, %v and %v", x, l, once, twice, back)
			}
			for _, y := range spans {
				if x.To > y.From {
					continue
				}
				one, _ := put(l, x, y)
				other, _ := put(l, y, x)
				if !slices.Equal(one, other) {
					t.Fatalf("%v and %v in %v: %v and %v", x, y, l, one, other)
				}
			}
		}
	}
}

// P15.4

func TestTheLastSpanIsSeen(t *testing.T) {
	random := rand.New(rand.NewSource(14))
	for range 400 {
		end := anyEnd(random)
		owner := anyOwner(random)
		ground, _ := timeline.New(end, owner)
		var spans []api.Span
		for range random.Intn(60) {
			spans = append(spans, anySpan(random, ground))
		}
		l, e := timeline.Paint(end, owner, spans)
		if e != api.OK {
			t.Fatalf("%v: %d", spans, e)
		}
		for _, at := range seconds(random, end, spans) {
			want := owner
			for _, s := range spans {
				if isIn(at, s.From, s.To) {
					want = s.Owner
				}
			}
			if got := ownerAt(t, l, at); got != want {
				t.Fatalf("after %v on %d, %d is at %d", spans, owner, got, at)
			}
		}
	}
}

func TestPaintingATimelineGivesIt(t *testing.T) {
	random := rand.New(rand.NewSource(15))
	for range 300 {
		l := anyLine(random, anyEnd(random))
		got, e := timeline.Paint(timeline.End(l), l[len(l)-1].Owner, l)
		if e != api.OK || !slices.Equal(got, l) {
			t.Fatalf("%v, painted, is %v, %d", l, got, e)
		}
	}
}

// P15.5

// join returns Join of a and b, and whether that is possible.
func join(a, b []api.Span, at int) ([]api.Span, bool) {
	out, e := timeline.Join(a, b, at)
	return out, e == api.OK
}

func TestJoiningWithItself(t *testing.T) {
	random := rand.New(rand.NewSource(16))
	for range 1000 {
		end := anyEnd(random)
		a, b := anyLine(random, end), anyLine(random, anyEnd(random))
		for _, at := range []int{0, anySecond(random, a), end} {
			if got, ok := join(a, a, at); !ok || !slices.Equal(got, a) {
				t.Fatalf("%v, joined with itself at %d, is %v", a, at, got)
			}
		}
		for _, first := range [][]api.Span{nil, a, b} {
			for _, second := range [][]api.Span{nil, a, b} {
				if got, ok := join(first, second, 0); !ok || !slices.Equal(got, second) {
					t.Fatalf("%v and %v, joined at 0, are %v", first, second, got)
				}
			}
		}
	}
}

func TestTheOrderOfJoinsPlaysNoPart(t *testing.T) {
	random := rand.New(rand.NewSource(17))
	done := 0
	for range 3000 {
		end := anyEnd(random)
		var lines [3][]api.Span
		for k := range lines {
			lines[k] = anyLine(random, end)
			if random.Intn(3) == 0 {
				lines[k] = anyLine(random, anyEnd(random))
			}
		}
		a, b, c := lines[0], lines[1], lines[2]
		at, later := anySecond(random, b), anySecond(random, b)
		if at > later {
			at, later = later, at
		}
		first, ok := join(a, b, at)
		left, ok1 := join(first, c, later)
		last, ok2 := join(b, c, later)
		right, ok3 := join(a, last, at)
		if !ok || !ok1 || !ok2 || !ok3 {
			continue
		}
		done++
		if !slices.Equal(left, right) {
			t.Fatalf("%v, %v and %v, joined at %d and %d, are %v or %v", a, b, c, at, later, left, right)
		}
		for _, second := range seconds(random, timeline.End(c), a, b, c) {
			want := c
			if second < later {
				want = b
			}
			if second < at {
				want = a
			}
			if ownerAt(t, left, second) != ownerAt(t, want, second) {
				t.Fatalf("%v, %v and %v, joined at %d and %d, are %v", a, b, c, at, later, left)
			}
		}
	}
	if done < 1000 {
		t.Errorf("only %d joins were possible", done)
	}
}

// P15.6

// diff returns the seconds with different owners of two timelines with the same end.
func diff(t testing.TB, a, b []api.Span) []api.Spell {
	t.Helper()
	out, e := timeline.Diff(a, b)
	if e != api.OK {
		t.Fatalf("%v and %v: %d", a, b, e)
	}
	return out
}

// checkDifferences fails unless the theorem holds for two timelines with the same end. It reports whether the parts of b could be put into a.
func checkDifferences(t testing.TB, a, b []api.Span) bool {
	t.Helper()
	spells := diff(t, a, b)
	if (len(spells) == 0) != slices.Equal(a, b) || !slices.Equal(spells, diff(t, b, a)) || len(diff(t, a, a)) > 0 {
		t.Fatalf("%v and %v: %v, or %v", a, b, spells, diff(t, b, a))
	}
	out, ok := a, true
	for _, s := range spells {
		in, e := timeline.Within(b, s)
		if e != api.OK {
			t.Fatalf("%v within %v: %d", s, b, e)
		}
		if out, ok = put(out, in...); !ok {
			return false
		}
	}
	if !slices.Equal(out, b) {
		t.Fatalf("%v, with what is different in %v, is %v", a, b, out)
	}
	return true
}

func TestDifferences(t *testing.T) {
	random := rand.New(rand.NewSource(18))
	done := 0
	for range 1500 {
		end := anyEnd(random)
		a, b := anyLine(random, end), anyLine(random, end)
		if checkDifferences(t, a, b) {
			done++
		}
		spells := diff(t, a, b)
		for _, at := range seconds(random, end, a, b) {
			if isOwned(spells, at) != (ownerAt(t, a, at) != ownerAt(t, b, at)) {
				t.Fatalf("%v and %v are different at %d, or are not", a, b, at)
			}
		}
		if c, ok := put(a, anySpan(random, a)); ok && checkDifferences(t, a, c) {
			done++
		}
	}
	if done < 2000 {
		t.Errorf("only %d differences could be put", done)
	}
}

func TestAllSmallDifferencesObeyTheTheorem(t *testing.T) {
	lines := smallLines(4, 3)
	for _, a := range lines {
		for _, b := range lines {
			if timeline.End(a) == timeline.End(b) && !checkDifferences(t, a, b) {
				t.Fatalf("%v and %v: the parts cannot be put", a, b)
			}
		}
	}
}

// P15.7

// anyPieces returns pieces of an hour for which some choice fits, and its length.
func anyPieces(random *rand.Rand) ([]api.Piece, int) {
	var out []api.Piece
	at := 0
	for range random.Intn(21) {
		var lengths []int
		for range 1 + random.Intn(8) {
			lengths = append(lengths, random.Intn(180))
		}
		if random.Intn(4) == 0 {
			lengths = append(lengths[1:], 0)
		}
		slices.Sort(lengths)
		p := api.Piece{Lengths: slices.Compact(lengths), Want: random.Intn(180), Join: -1}
		if random.Intn(2) == 0 {
			p.Join = at
		}
		out = append(out, p)
		at += p.Lengths[random.Intn(len(p.Lengths))]
	}
	return out, at
}

// checkHour fails unless pieces with these lengths, put one after the other into silence until end, own their seconds, and the seconds of their joins.
func checkHour(t *testing.T, l []api.Piece, lengths []int, end int) {
	t.Helper()
	line, e := timeline.New(end, api.OwnerNone)
	if e != api.OK {
		t.Fatalf("silence until %d: %d", end, e)
	}
	var spells []api.Spell
	at := 0
	for k, length := range lengths {
		spells = append(spells, api.Spell{From: at, To: at + length})
		at += length
		if length > 0 {
			if line, e = timeline.Put(line, api.Span{From: at - length, To: at, Owner: k + 1}); e != api.OK {
				t.Fatalf("the piece %d of %v cannot be put: %d", k, lengths, e)
			}
		}
	}
	for k, s := range spells {
		own := owned(t, line, k+1)
		if lengths[k] == 0 {
			if len(own) > 0 {
				t.Fatalf("the piece %d of %v owns %v", k, lengths, own)
			}
			continue
		}
		if !slices.Equal(own, []api.Spell{s}) {
			t.Fatalf("the piece %d of %v owns %v instead of %v", k, lengths, own, s)
		}
		if l[k].Join != -1 && ownerAt(t, line, l[k].Join) != k+1 {
			t.Fatalf("the piece %d of %v does not own the second %d", k, lengths, l[k].Join)
		}
	}
}

func TestPiecesOfAnHour(t *testing.T) {
	random := rand.New(rand.NewSource(19))
	empty, joined := 0, 0
	for range 1000 {
		l, total := anyPieces(random)
		lengths, _, e := fit.Solve(l, total)
		if e != api.OK {
			t.Fatalf("%v do not fit %d: %d", l, total, e)
		}
		checkHour(t, l, lengths, total)
		checkHour(t, l, lengths, 3600)
		for k, p := range l {
			if lengths[k] == 0 {
				empty++
			} else if p.Join != -1 {
				joined++
			}
		}
	}
	if empty < 100 || joined < 1000 {
		t.Errorf("%d pieces of no seconds, %d with a join", empty, joined)
	}
}

func TestPiecesOfTheExample(t *testing.T) {
	l := []api.Piece{
		{Lengths: []int{10}, Want: 10, Join: -1},
		{Lengths: []int{170, 200}, Want: 200, Join: -1},
		{Lengths: []int{60, 90, 120}, Want: 90, Join: -1},
		{Lengths: []int{30}, Want: 30, Join: 300},
	}
	lengths, _, e := fit.Solve(l, 330)
	if e != api.OK {
		t.Fatal(e)
	}
	checkHour(t, l, lengths, 330)
	line, e := timeline.Paint(330, 0, []api.Span{{From: 0, To: 10, Owner: 1}, {From: 10, To: 210, Owner: 2}, {From: 210, To: 300, Owner: 3}, {From: 300, To: 330, Owner: 4}})
	if e != api.OK || len(line) != 4 || ownerAt(t, line, 300) != 4 || ownerAt(t, line, 299) != 3 {
		t.Errorf("%v, %d", line, e)
	}
}
