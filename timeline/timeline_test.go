package timeline_test

import (
	"math/rand"
	"slices"
	"testing"

	"aircheck/api"
	"aircheck/timeline"
)

// P15.1: the examples

func TestExamples(t *testing.T) {
	l, e := timeline.Paint(100, 0, []api.Span{{From: 20, To: 50, Owner: 7}})
	if e != api.OK || !slices.Equal(l, []api.Span{{From: 0, To: 20}, {From: 20, To: 50, Owner: 7}, {From: 50, To: 100}}) {
		t.Fatalf("%v, %d", l, e)
	}
	other, e := timeline.Put(l, api.Span{From: 40, To: 60, Owner: 9})
	if e != api.OK || !slices.Equal(other, []api.Span{{From: 0, To: 20}, {From: 20, To: 40, Owner: 7}, {From: 40, To: 60, Owner: 9}, {From: 60, To: 100}}) {
		t.Errorf("%v, %d", other, e)
	}
	longer, e := timeline.Put(l, api.Span{From: 50, To: 60, Owner: 7})
	if e != api.OK || !slices.Equal(longer, []api.Span{{From: 0, To: 20}, {From: 20, To: 60, Owner: 7}, {From: 60, To: 100}}) {
		t.Errorf("%v, %d", longer, e)
	}
	for owner, want := range map[int][]api.Spell{0: {{From: 0, To: 20}, {From: 50, To: 100}}, 5: nil, 7: {{From: 20, To: 50}}} {
		if got, e := timeline.Owned(l, owner); e != api.OK || !slices.Equal(got, want) {
			t.Errorf("of %d: %v, %d", owner, got, e)
		}
	}
	if got, e := timeline.Diff(l, other); e != api.OK || !slices.Equal(got, []api.Spell{{From: 40, To: 60}}) {
		t.Errorf("%v, %d", got, e)
	}
	for at, want := range map[int]int{0: 0, 19: 0, 20: 7, 49: 7, 50: 0, 99: 0} {
		if got, e := timeline.At(l, at); e != api.OK || got != want {
			t.Errorf("at %d: %d, %d", at, got, e)
		}
	}
	if got, e := timeline.At(l, 100); e != api.ErrTimeline || got != 0 {
		t.Errorf("%d, %d", got, e)
	}
}

// P15.1: Valid and End

func TestValidTimelines(t *testing.T) {
	for _, l := range [][]api.Span{
		nil,
		{},
		example(),
		{{From: 0, To: 1}},
		{{From: 0, To: 10000000, Owner: 2999}},
		{{From: 0, To: 9999999}, {From: 9999999, To: 10000000, Owner: 1}},
		striped(200, 50000, 2999, 0),
		striped(200, 1, 1, 2, 3),
		{{From: 0, To: 5, Owner: 1}, {From: 5, To: 6}, {From: 6, To: 9, Owner: 1}},
	} {
		if !timeline.Valid(l) || timeline.End(l) != definedEnd(l) || !checkLine(t, l) {
			t.Errorf("%v is not valid", l)
		}
	}
	if timeline.End(nil) != 0 || timeline.End(example()) != 100 {
		t.Errorf("the ends are %d and %d", timeline.End(nil), timeline.End(example()))
	}
}

func TestInvalidTimelinesAreRefused(t *testing.T) {
	for _, l := range [][]api.Span{
		{{}},
		{{From: 0, To: 0, Owner: 1}},
		{{From: 1, To: 2}},
		{{From: -1, To: 2}},
		{{From: 2, To: 1}},
		{{From: 0, To: -1}},
		{{From: 0, To: 5}, {From: 5, To: 9}},
		{{From: 0, To: 5}, {From: 5, To: 5, Owner: 1}},
		{{From: 0, To: 5}, {From: 5, To: 4, Owner: 1}},
		{{From: 0, To: 5}, {From: 6, To: 9, Owner: 1}},
		{{From: 0, To: 5}, {From: 4, To: 9, Owner: 1}},
		{{From: 0, To: 5}, {From: 0, To: 5, Owner: 1}},
		{{From: 5, To: 9, Owner: 1}, {From: 0, To: 5}},
		{{From: 0, To: 10000001}},
		{{From: 0, To: 10000000}, {From: 10000000, To: 10000001, Owner: 1}},
		{{From: 0, To: 5, Owner: 3000}},
		{{From: 0, To: 5, Owner: -1}},
		striped(201, 1, 0, 1),
		striped(201, 40000, 5, 6, 7),
		striped(200, 50001, 0, 1),
		striped(200, 1, 0, 1, 1),
		make([]api.Span, 201),
		striped(100000, 1, 0, 1),
	} {
		if timeline.Valid(l) || timeline.End(l) != -1 || checkLine(t, l) {
			t.Errorf("%v is valid", l)
		}
	}
}

func TestAllShortLists(t *testing.T) {
	var spans []api.Span
	for from := -1; from <= 4; from++ {
		for to := -1; to <= 5; to++ {
			for _, owner := range []int{-1, 0, 1, 3000} {
				spans = append(spans, api.Span{From: from, To: to, Owner: owner})
			}
		}
	}
	valid := 0
	for _, x := range spans {
		if checkLine(t, []api.Span{x}) {
			valid++
		}
		for _, y := range spans {
			if checkLine(t, []api.Span{x, y}) {
				valid++
			}
		}
	}
	// 5 ends with an owner each, and 4 + 3 + 2 + 1 pairs, each with two different owners.
	if valid != 30 {
		t.Errorf("%d lists are valid", valid)
	}
}

// numbers returns pointers to the numbers of l.
func numbers(l []api.Span) []*int {
	var out []*int
	for k := range l {
		out = append(out, &l[k].From, &l[k].To, &l[k].Owner)
	}
	return out
}

func TestEveryNumberOfATimelineIsChecked(t *testing.T) {
	for x := range numbers(example()) {
		for _, value := range extremes {
			l := example()
			*numbers(l)[x] = value
			checkLine(t, l)
			for y := range x {
				for _, other := range extremes {
					*numbers(l)[y] = other
					checkLine(t, l)
				}
				l = example()
				*numbers(l)[x] = value
			}
		}
	}
}

// P15.1: At

func TestEachSecondOfSmallTimelines(t *testing.T) {
	for _, l := range smallLines(5, 3) {
		for at := -2; at <= 7; at++ {
			checkAt(t, l, at)
		}
	}
}

func TestSecondsAreChecked(t *testing.T) {
	for _, l := range [][]api.Span{nil, example(), striped(200, 50000, 2999, 0)} {
		for _, at := range extremes {
			checkAt(t, l, at)
		}
		for _, at := range edges(l) {
			checkAt(t, l, at-1)
			checkAt(t, l, at)
			checkAt(t, l, at+1)
		}
	}
}

// P15.1: New

func TestNew(t *testing.T) {
	for _, end := range extremes {
		for _, owner := range extremes {
			l, e := checkNew(t, end, owner)
			if e == api.OK && (!timeline.Valid(l) || timeline.End(l) != end) {
				t.Errorf("New(%d, %d) = %v", end, owner, l)
			}
		}
	}
	if l, e := timeline.New(0, 5); e != api.OK || len(l) != 0 {
		t.Errorf("%v, %d", l, e)
	}
	if l, e := timeline.New(60, 3); e != api.OK || !slices.Equal(l, []api.Span{{From: 0, To: 60, Owner: 3}}) {
		t.Errorf("%v, %d", l, e)
	}
}

// P15.1: Put

func TestAllSmallPuts(t *testing.T) {
	for _, l := range smallLines(5, 3) {
		for from := -1; from <= 6; from++ {
			for to := -1; to <= 6; to++ {
				for owner := -1; owner <= 3; owner++ {
					checkPut(t, l, api.Span{From: from, To: to, Owner: owner})
				}
			}
		}
	}
}

func TestEveryNumberOfASpanIsChecked(t *testing.T) {
	for _, l := range [][]api.Span{nil, example(), striped(200, 50000, 2999, 0), {{From: 0, To: 10000000}}} {
		for _, from := range extremes {
			for _, to := range extremes {
				for _, owner := range []int{-1 << 63, -1, 0, 7, 2999, 3000, 1<<63 - 1} {
					checkPut(t, l, api.Span{From: from, To: to, Owner: owner})
				}
			}
		}
	}
}

func TestPutNeedsAtMost200Spans(t *testing.T) {
	for count := 197; count <= 200; count++ {
		l := striped(count, 4, 0, 1)
		for _, s := range []api.Span{
			{From: 1, To: 2, Owner: 5},   // two more
			{From: 0, To: 1, Owner: 5},   // one more
			{From: 1, To: 2, Owner: 0},   // as many
			{From: 0, To: 4, Owner: 5},   // as many
			{From: 3, To: 5, Owner: 5},   // one more
			{From: 3, To: 5, Owner: 1},   // as many
			{From: 4, To: 8, Owner: 0},   // two less
			{From: 9, To: 15, Owner: 5},  // one more
			{From: 9, To: 20, Owner: 5},  // one less
			{From: 10, To: 11, Owner: 1}, // two more
		} {
			checkPut(t, l, s)
		}
		_, two := timeline.Put(l, api.Span{From: 1, To: 2, Owner: 5})
		_, one := timeline.Put(l, api.Span{From: 0, To: 1, Owner: 5})
		if (two == api.OK) != (count <= 198) || (one == api.OK) != (count <= 199) {
			t.Errorf("with %d spans: %d and %d", count, two, one)
		}
	}
}

func TestAnyPuts(t *testing.T) {
	random := rand.New(rand.NewSource(1))
	refused := 0
	for range 3000 {
		l := anyLine(random, anyEnd(random))
		s := anySpan(random, l)
		if _, e := checkPut(t, l, s); e != api.OK {
			refused++
		}
		*numbers([]api.Span{s})[random.Intn(3)] += random.Intn(5) - 2
		checkPut(t, l, s)
	}
	if refused < 20 {
		t.Errorf("only %d results would have too many spans", refused)
	}
}

// P15.1: Paint

func TestAllSmallPaintings(t *testing.T) {
	var spans []api.Span
	for from := -1; from <= 3; from++ {
		for to := 0; to <= 4; to++ {
			for owner := range 3 {
				spans = append(spans, api.Span{From: from, To: to, Owner: owner})
			}
		}
	}
	for end := -1; end <= 4; end++ {
		for owner := -1; owner <= 1; owner++ {
			checkPaint(t, end, owner, nil)
			for _, x := range spans {
				checkPaint(t, end, owner, []api.Span{x})
				for _, y := range spans {
					checkPaint(t, end, owner, []api.Span{x, y})
				}
			}
		}
	}
}

func TestPaintOfBounds(t *testing.T) {
	for _, end := range extremes {
		for _, owner := range extremes {
			checkPaint(t, end, owner, nil)
			checkPaint(t, end, owner, []api.Span{{From: 20, To: 50, Owner: 7}})
			checkPaint(t, end, 0, []api.Span{{From: 0, To: end, Owner: owner}, {From: owner, To: end, Owner: 1}})
		}
	}
}

func TestPaintEndsWithTheFirstError(t *testing.T) {
	whole := api.Span{From: 0, To: 100, Owner: 3}
	for _, wrong := range []api.Span{{From: -1, To: 5}, {From: 5, To: 5}, {From: 6, To: 5}, {From: 99, To: 101}, {From: 0, To: 1, Owner: -1}, {From: 0, To: 1, Owner: 3000}} {
		for _, l := range [][]api.Span{{wrong}, {whole, wrong}, {wrong, whole}, {whole, wrong, whole}} {
			if got, e := checkPaint(t, 100, 0, l); e != api.ErrTimeline || len(got) != 0 {
				t.Errorf("%v, %d", got, e)
			}
		}
	}
}

func TestPaintNeedsAtMost200SpansAtEachStep(t *testing.T) {
	var l []api.Span
	for k := range 100 {
		l = append(l, api.Span{From: 2*k + 1, To: 2*k + 2, Owner: 1})
	}
	if got, e := checkPaint(t, 200, 0, l); e != api.OK || !slices.Equal(got, striped(200, 1, 0, 1)) {
		t.Errorf("%v, %d", got, e)
	}
	if got, e := checkPaint(t, 201, 0, l); e != api.ErrTimeline || len(got) != 0 {
		t.Errorf("%v, %d", got, e)
	}
	// The last span would leave only one span, but the one before it cannot be put.
	l = append(l, api.Span{From: 0, To: 201, Owner: 1})
	if got, e := checkPaint(t, 201, 0, l); e != api.ErrTimeline || len(got) != 0 {
		t.Errorf("%v, %d", got, e)
	}
	slices.Reverse(l)
	if got, e := checkPaint(t, 201, 0, l); e != api.OK || !slices.Equal(got, []api.Span{{From: 0, To: 201, Owner: 1}}) {
		t.Errorf("%v, %d", got, e)
	}
}

func TestPaintOfManySpans(t *testing.T) {
	random := rand.New(rand.NewSource(2))
	for range 200 {
		end := anyEnd(random)
		l, _ := timeline.New(end, 0)
		var spans []api.Span
		for range random.Intn(80) {
			spans = append(spans, anySpan(random, l))
		}
		checkPaint(t, end, anyOwner(random), spans)
		if len(spans) > 0 {
			*numbers(spans)[random.Intn(3*len(spans))] += random.Intn(5) - 2
			checkPaint(t, end, anyOwner(random), spans)
		}
	}
	var long []api.Span
	for k := range 20000 {
		long = append(long, api.Span{From: k % 50, To: k%50 + 1, Owner: k % 2999})
	}
	if got, e := checkPaint(t, 50, 0, long); e != api.OK || len(got) != 50 {
		t.Errorf("%v, %d", got, e)
	}
}

// P15.1: Within

func TestAllSmallParts(t *testing.T) {
	for _, l := range smallLines(5, 3) {
		for from := -1; from <= 7; from++ {
			for to := -1; to <= 7; to++ {
				checkWithin(t, l, api.Spell{From: from, To: to})
			}
		}
	}
}

func TestWithinOfBounds(t *testing.T) {
	for _, l := range [][]api.Span{nil, example(), striped(200, 50000, 2999, 0)} {
		for _, from := range extremes {
			for _, to := range extremes {
				checkWithin(t, l, api.Spell{From: from, To: to})
			}
		}
	}
	if got, e := timeline.Within(example(), api.Spell{From: 10, To: 30}); e != api.OK || !slices.Equal(got, []api.Span{{From: 10, To: 20}, {From: 20, To: 30, Owner: 7}}) {
		t.Errorf("%v, %d", got, e)
	}
}

func TestAnyParts(t *testing.T) {
	random := rand.New(rand.NewSource(3))
	for range 2000 {
		l := anyLine(random, anyEnd(random))
		checkWithin(t, l, anySpell(random, l))
		checkWithin(t, l, api.Spell{From: 0, To: definedEnd(l)})
	}
}

// P15.1: Join

func TestAllSmallJoins(t *testing.T) {
	lines := append(smallLines(4, 3), []api.Span{{From: 1, To: 2}})
	for _, a := range lines {
		for _, b := range lines {
			for at := -1; at <= 5; at++ {
				checkJoin(t, a, b, at)
			}
		}
	}
}

func TestJoinOfBounds(t *testing.T) {
	lines := [][]api.Span{nil, example(), striped(200, 50000, 2999, 0), {{From: 0, To: 100, Owner: 7}}, {{From: 0, To: 10000000, Owner: 1}}}
	for _, a := range lines {
		for _, b := range lines {
			for _, at := range extremes {
				checkJoin(t, a, b, at)
			}
		}
	}
}

func TestJoinNeedsAtMost200Spans(t *testing.T) {
	a, b := striped(200, 4, 0, 1), striped(200, 4, 2, 3)
	for at := range 801 {
		_, e := checkJoin(t, a, b, at)
		// A join within two spans leaves a part of each.
		if (e == api.OK) != (at%4 == 0) {
			t.Errorf("joined at %d: %d", at, e)
		}
		checkJoin(t, a, striped(200, 4, 1, 0), at)
		checkJoin(t, a, striped(200, 3, 0, 1), at)
		checkJoin(t, striped(200, 3, 0, 1), a, at)
	}
	if _, e := timeline.Join(a, striped(200, 2, 2, 3), 300); e != api.OK {
		t.Errorf("75 spans and 50: %d", e)
	}
	if _, e := timeline.Join(striped(200, 2, 2, 3), a, 300); e != api.ErrTimeline {
		t.Errorf("150 spans and 125: %d", e)
	}
}

func TestAnyJoins(t *testing.T) {
	random := rand.New(rand.NewSource(4))
	for range 3000 {
		end := anyEnd(random)
		a, b := anyLine(random, end), anyLine(random, end)
		if random.Intn(2) == 0 {
			b = anyLine(random, 1+random.Intn(end))
		}
		if random.Intn(2) == 0 {
			a, b = b, a
		}
		checkJoin(t, a, b, anySecond(random, a))
		checkJoin(t, a, b, anySecond(random, b))
	}
}

// P15.1: Owned

func TestAllSmallOwned(t *testing.T) {
	for _, l := range smallLines(6, 3) {
		for owner := -1; owner <= 3; owner++ {
			checkOwned(t, l, owner)
		}
	}
}

func TestOwnedOfBounds(t *testing.T) {
	for _, l := range [][]api.Span{nil, example(), striped(200, 50000, 2999, 0)} {
		for _, owner := range extremes {
			checkOwned(t, l, owner)
		}
	}
	if got, e := timeline.Owned(striped(200, 5, 4, 2999), 2999); e != api.OK || len(got) != 100 || got[99] != (api.Spell{From: 995, To: 1000}) {
		t.Errorf("%v, %d", got, e)
	}
	// An owner that no second can have owns nothing, which is no error.
	for _, owner := range []int{-1, 3000} {
		if got, e := timeline.Owned(example(), owner); e != api.OK || len(got) != 0 {
			t.Errorf("%v, %d", got, e)
		}
	}
}

// P15.1: Diff

func TestAllSmallDifferences(t *testing.T) {
	lines := append(smallLines(5, 2), smallLines(4, 3)...)
	lines = append(lines, []api.Span{{From: 0, To: 0}})
	for _, a := range lines {
		for _, b := range lines {
			checkDiff(t, a, b)
		}
	}
}

func TestDifferencesAreAsLongAsPossible(t *testing.T) {
	for _, x := range []struct {
		a, b []api.Span
		want []api.Spell
	}{
		{striped(200, 4, 0, 1), striped(200, 4, 2, 3), []api.Spell{{From: 0, To: 800}}},
		{striped(200, 4, 0, 1), striped(160, 5, 2, 3), []api.Spell{{From: 0, To: 800}}},
		{striped(4, 4, 0, 1), []api.Span{{From: 0, To: 16, Owner: 1}}, []api.Spell{{From: 0, To: 4}, {From: 8, To: 12}}},
		{striped(4, 4, 0, 1, 2), []api.Span{{From: 0, To: 16, Owner: 2}}, []api.Spell{{From: 0, To: 8}, {From: 12, To: 16}}},
		{striped(4, 4, 0, 1), striped(4, 4, 1, 0), []api.Spell{{From: 0, To: 16}}},
		{striped(4, 4, 0, 1), striped(2, 8, 0, 1), []api.Spell{{From: 4, To: 12}}},
	} {
		if got, _ := checkDiff(t, x.a, x.b); !slices.Equal(got, x.want) {
			t.Errorf("%v and %v: %v", x.a, x.b, got)
		}
	}
	got, _ := checkDiff(t, striped(200, 4, 0, 1), []api.Span{{From: 0, To: 800, Owner: 1}})
	if len(got) != 100 || got[99] != (api.Spell{From: 792, To: 796}) {
		t.Errorf("%v", got)
	}
	// Spans of 4 and of 5 seconds with the same two owners agree, and do not, in many spells.
	if got, _ = checkDiff(t, striped(200, 4, 0, 1), striped(160, 5, 0, 1)); len(got) < 100 {
		t.Errorf("%v", got)
	}
}

func TestDifferentEndsHaveNoDifferences(t *testing.T) {
	for _, a := range [][]api.Span{nil, example(), striped(200, 50000, 2999, 0), {{From: 0, To: 99}}, {{From: 0, To: 101}}} {
		for _, b := range [][]api.Span{nil, example(), striped(200, 50000, 0, 5), {{From: 0, To: 99, Owner: 1}}, {{From: 0, To: 101, Owner: 2}}} {
			if _, e := checkDiff(t, a, b); (e == api.OK) != (definedEnd(a) == definedEnd(b)) {
				t.Errorf("%v and %v: %d", a, b, e)
			}
		}
	}
}

func TestAnyDifferences(t *testing.T) {
	random := rand.New(rand.NewSource(5))
	for range 2000 {
		end := anyEnd(random)
		a, b := anyLine(random, end), anyLine(random, end)
		checkDiff(t, a, b)
		c, _ := timeline.Put(a, anySpan(random, a))
		checkDiff(t, a, c)
		checkDiff(t, c, b)
	}
}

// P15.1, R3: results share no memory

func TestResultsAreNewMemory(t *testing.T) {
	l := example()
	for k, call := range []func() ([]api.Span, api.Errno){
		func() ([]api.Span, api.Errno) { return timeline.New(100, 4) },
		func() ([]api.Span, api.Errno) { return timeline.Put(l, l[1]) },
		func() ([]api.Span, api.Errno) { return timeline.Paint(100, 0, l) },
		func() ([]api.Span, api.Errno) { return timeline.Paint(100, 4, nil) },
		func() ([]api.Span, api.Errno) { return timeline.Within(l, api.Spell{From: 0, To: 100}) },
		func() ([]api.Span, api.Errno) { return timeline.Join(l, l, 0) },
		func() ([]api.Span, api.Errno) { return timeline.Join(l, l, 50) },
		func() ([]api.Span, api.Errno) { return timeline.Join(l, l, 100) },
	} {
		first, _ := call()
		second, _ := call()
		want := slices.Clone(second)
		clear(first[:cap(first)])
		if !slices.Equal(second, want) || !slices.Equal(l, example()) {
			t.Errorf("the call %d: %v became %v, and the argument %v", k, want, second, l)
		}
	}
}

func FuzzTimeline(f *testing.F) {
	f.Add(20, 0, 50, 7, 100, 0, 40, 60, 9, 50)
	f.Add(1, 1, 2, 0, 3, 1, 0, 3, 1, 1)
	f.Add(9999998, 2999, 9999999, 0, 10000000, 1, 9999999, 10000000, 0, 9999999)
	f.Add(5, 1, 5, 2, 10000001, 3, -1, 6, 3000, -1)
	f.Fuzz(func(t *testing.T, to1, owner1, to2, owner2, to3, owner3, from, to, owner, at int) {
		l := []api.Span{{From: 0, To: to1, Owner: owner1}, {From: to1, To: to2, Owner: owner2}, {From: to2, To: to3, Owner: owner3}}
		s := api.Span{From: from, To: to, Owner: owner}
		checkNew(t, to3, owner)
		checkPaint(t, to3, owner, append(slices.Clone(l), s))
		for count := range 4 {
			checkLine(t, l[:count])
			checkAt(t, l[:count], at)
			put, _ := checkPut(t, l[:count], s)
			checkWithin(t, l[:count], api.Spell{From: from, To: to})
			checkOwned(t, l[:count], owner)
			for _, other := range [][]api.Span{put, l, l[1:], {s}} {
				checkJoin(t, l[:count], other, at)
				checkJoin(t, other, l[:count], at)
				checkDiff(t, l[:count], other)
			}
		}
	})
}
