package clock

import (
	"math"
	"math/rand"
	"slices"
	"testing"

	"aircheck/api"
)

// example is the clock of the chapter's examples.
func example() api.Clock {
	return api.Clock{Drift: 100, Readings: []api.Reading{{Local: 1000, Low: 2000, High: 2010}}}
}

// extremes are numbers around every bound of a second or a drift, and far from them.
var extremes = []int{math.MinInt, math.MinInt + 1, -1 << 40, -api.MaxTime, -101, -100, -2, -1, 0, 1, 2, 99, 100, 101, 102, api.MaxTime - 1, api.MaxTime, api.MaxTime + 1, api.MaxTime + 2, 1 << 40, math.MaxInt - 1, math.MaxInt}

// definedAsTime reports whether n is a second from 0 to MaxTime.
func definedAsTime(n int) bool {
	return n >= 0 && n <= 10000000
}

// definedAsValid reports whether c is valid in the words of the chapter.
func definedAsValid(c api.Clock) bool {
	if c.Drift < 0 || c.Drift > 100 || len(c.Readings) > 12 {
		return false
	}
	for i, r := range c.Readings {
		if !definedAsTime(r.Local) || !definedAsTime(r.Low) || !definedAsTime(r.High) || r.Low > r.High {
			return false
		}
		if i > 0 && c.Readings[i-1].Local >= r.Local {
			return false
		}
	}
	return true
}

// possible is the inequality of the chapter: a clock with the drift d may advance by n between two true seconds that are x apart.
func possible(d, x, n int) bool {
	return (1000-d)*x-1000 < 1000*n && 1000*n < (1000+d)*x+1000
}

// definedSpread returns what the chapter says of Spread, found by trying.
func definedSpread(d, n int) (int, int) {
	least := 0
	for !possible(d, least, n) {
		least++
	}
	greatest := least
	for possible(d, greatest+1, n) {
		greatest++
	}
	return least, greatest
}

// definedAt returns what the chapter says of At.
func definedAt(c api.Clock, local int) (int, int, api.Errno) {
	if !definedAsValid(c) || !definedAsTime(local) {
		return 0, 0, api.ErrClock
	}
	lower, upper := []int{0}, []int{10000000}
	for _, r := range c.Readings {
		switch n := local - r.Local; {
		case n > 0:
			x, y := definedSpread(c.Drift, n)
			lower, upper = append(lower, r.Low+x), append(upper, r.High+y)
		case n < 0:
			x, y := definedSpread(c.Drift, -n)
			lower, upper = append(lower, r.Low-y), append(upper, r.High-x)
		default:
			_, y := definedSpread(c.Drift, 0)
			lower, upper = append(lower, r.Low-y), append(upper, r.High+y)
		}
	}
	first, last := slices.Max(lower), slices.Min(upper)
	if first > last {
		return 0, 0, api.ErrClock
	}
	return first, last, api.OK
}

// checkAt fails unless At, and Before and After around its results, return what the chapter says. It returns what At returned.
func checkAt(t testing.TB, c api.Clock, local int) (int, int, api.Errno) {
	t.Helper()
	wantFirst, wantLast, want := definedAt(c, local)
	first, last, e := At(c, local)
	if first != wantFirst || last != wantLast || e != want {
		t.Fatalf("At(%v, %d) = %d, %d, %d; want %d, %d, %d", c, local, first, last, e, wantFirst, wantLast, want)
	}
	for _, at := range append([]int{first - 1, first, first + 1, last - 1, last, last + 1}, extremes...) {
		if got := Before(c, local, at); got != (want == api.OK && wantLast < at) {
			t.Fatalf("Before(%v, %d, %d) = %v", c, local, at, got)
		}
		if got := After(c, local, at); got != (want == api.OK && wantFirst > at) {
			t.Fatalf("After(%v, %d, %d) = %v", c, local, at, got)
		}
	}
	return first, last, e
}

// canShow reports whether the clock may show the second local at the true second at, as At says.
func canShow(c api.Clock, local, at int) bool {
	first, last, e := At(c, local)
	return e == api.OK && first <= at && at <= last
}

// refusesAll fails unless all functions refuse the clock, also where local and t are seconds.
func refusesAll(t *testing.T, c api.Clock) {
	t.Helper()
	if Valid(c) {
		t.Errorf("%v is valid", c)
	}
	for _, n := range []int{0, 1, 1000, 2000, 2005, api.MaxTime} {
		if first, last, e := At(c, n); first != 0 || last != 0 || e != api.ErrClock {
			t.Errorf("At(%v, %d) = %d, %d, %d", c, n, first, last, e)
		}
		if first, last, e := Reads(c, n); first != 0 || last != 0 || e != api.ErrClock {
			t.Errorf("Reads(%v, %d) = %d, %d, %d", c, n, first, last, e)
		}
		for _, at := range extremes {
			if Before(c, n, at) || After(c, n, at) {
				t.Errorf("Before or After(%v, %d, %d)", c, n, at)
			}
		}
	}
}

// anyClock returns a valid clock with at most so many readings, all of whose seconds are from low to high. Its readings may contradict each other; mostly they do not.
func anyClock(r *rand.Rand, readings, low, high int) api.Clock {
	c := api.Clock{Drift: []int{0, 1, 3, 50, 99, 100, r.Intn(101)}[r.Intn(7)]}
	size := high - low + 1
	shift := r.Intn(size/2+1) - size/4
	for range r.Intn(readings + 1) {
		local := low + r.Intn(size)
		if slices.ContainsFunc(c.Readings, func(x api.Reading) bool { return x.Local == local }) {
			continue
		}
		at := local + shift + r.Intn(7) - 3
		if r.Intn(8) == 0 {
			at = low + r.Intn(size)
		}
		within := func(n int) int { return min(max(n, low), high) }
		c.Readings = append(c.Readings, api.Reading{Local: local, Low: within(at - r.Intn(1+size/8)), High: within(at + r.Intn(1+size/8))})
	}
	slices.SortFunc(c.Readings, func(a, b api.Reading) int { return a.Local - b.Local })
	return c
}

// P5.1: Valid

func TestValid(t *testing.T) {
	end := api.MaxTime
	for _, c := range []api.Clock{
		{}, {Drift: 100}, {Readings: []api.Reading{}}, example(),
		{Readings: []api.Reading{{Local: 0, Low: 0, High: 0}}},
		{Readings: []api.Reading{{Local: end, Low: end, High: end}}},
		{Drift: 100, Readings: []api.Reading{{Local: 0, Low: 0, High: end}, {Local: end, Low: 0, High: end}}},
		{Readings: []api.Reading{{Local: 5, Low: 9, High: 9}, {Local: 6, Low: 1, High: 1}}}, // no course agrees, but it is valid
	} {
		if !Valid(c) || !definedAsValid(c) {
			t.Errorf("%v is not valid", c)
		}
	}
}

func TestInvalidClocksAreRefused(t *testing.T) {
	end := api.MaxTime
	one := func(local, low, high int) api.Clock {
		return api.Clock{Readings: []api.Reading{{Local: local, Low: low, High: high}}}
	}
	two := func(first, second int) api.Clock {
		return api.Clock{Readings: []api.Reading{{Local: first, Low: 1, High: 2}, {Local: second, Low: 1, High: 2}}}
	}
	for _, c := range []api.Clock{
		{Drift: -1}, {Drift: 101}, {Drift: math.MinInt}, {Drift: math.MaxInt}, {Drift: 101, Readings: example().Readings}, {Drift: -1, Readings: example().Readings},
		one(-1, 1, 2), one(end+1, 1, 2), one(math.MinInt, 1, 2), one(math.MaxInt, 1, 2),
		one(1, -1, 2), one(1, math.MinInt, 2), one(1, -1, -1), one(1, 0, end+1), one(1, end+1, end+1), one(1, 1, math.MaxInt), one(1, math.MinInt, math.MaxInt),
		one(1, 3, 2), one(1, end, 0), one(1, math.MaxInt, math.MinInt), one(1, 1, 0),
		two(5, 5), two(5, 4), two(0, 0), two(end, end), two(end, 0), two(5, end+1), two(-1, 5), two(5, math.MinInt), two(math.MaxInt, math.MinInt), two(math.MaxInt, 5),
	} {
		if definedAsValid(c) {
			t.Errorf("%v is valid", c)
		}
		refusesAll(t, c)
	}
}

func TestEveryReadingIsChecked(t *testing.T) {
	full := api.Clock{Drift: 100}
	for i := range api.MaxReadings {
		full.Readings = append(full.Readings, api.Reading{Local: 1000 + 10*i, Low: 2000 + 10*i, High: 2000 + 10*i})
		if !Valid(full) {
			t.Errorf("%d readings are not valid", i+1)
		}
	}
	for i := range full.Readings {
		for _, change := range []func(*api.Reading){
			func(r *api.Reading) { r.Local = -1 },
			func(r *api.Reading) { r.Local = api.MaxTime + 1 },
			func(r *api.Reading) { r.Low = -1 },
			func(r *api.Reading) { r.Low = r.High + 1 },
			func(r *api.Reading) { r.High = r.Low - 1 },
			func(r *api.Reading) { r.High = api.MaxTime + 1 },
			func(r *api.Reading) { r.Local = full.Readings[(i+1)%api.MaxReadings].Local },
			func(r *api.Reading) { r.Local = full.Readings[(i+6)%api.MaxReadings].Local + 5 },
		} {
			c := api.Clock{Drift: 100, Readings: slices.Clone(full.Readings)}
			change(&c.Readings[i])
			refusesAll(t, c)
		}
	}
	full.Readings = append(full.Readings, api.Reading{Local: 5000, Low: 6000, High: 6000})
	refusesAll(t, full)
	refusesAll(t, api.Clock{Readings: make([]api.Reading, 100000)})
}

func TestValidIsAsDefined(t *testing.T) {
	r := rand.New(rand.NewSource(1))
	any := func() int { return extremes[r.Intn(len(extremes))] }
	valid := 0
	for range 100000 {
		c := api.Clock{Drift: r.Intn(101)}
		if r.Intn(8) == 0 {
			c.Drift = any()
		}
		for range r.Intn(3) {
			c.Readings = append(c.Readings, api.Reading{Local: any(), Low: any(), High: any()})
		}
		if Valid(c) != definedAsValid(c) {
			t.Errorf("Valid(%v) = %v", c, Valid(c))
		}
		if Valid(c) {
			valid++
		}
	}
	if valid < 1000 {
		t.Errorf("only %d clocks were valid", valid)
	}
}

// P5.1 and P5.3: Spread

func TestSpread(t *testing.T) {
	for _, c := range []struct{ drift, n, least, greatest int }{
		{0, 7, 7, 7}, {100, 0, 0, 1}, {100, 110, 100, 123},
		{0, 0, 0, 0}, {1, 0, 0, 1}, {0, 1, 1, 1}, {1, 1, 1, 2}, {100, 1, 1, 2}, {100, 11, 10, 13}, {5, 1000, 995, 1006},
		{0, api.MaxTime, api.MaxTime, api.MaxTime}, {100, api.MaxTime, 9090909, 11111112}, {1, api.MaxTime, 9990009, 10010011},
	} {
		if least, greatest := Spread(c.drift, c.n); least != c.least || greatest != c.greatest {
			t.Errorf("Spread(%d, %d) = %d, %d; want %d, %d", c.drift, c.n, least, greatest, c.least, c.greatest)
		}
	}
}

func TestSpreadRefuses(t *testing.T) {
	for _, drift := range extremes {
		for _, n := range extremes {
			least, greatest := Spread(drift, n)
			if drift < 0 || drift > 100 || !definedAsTime(n) {
				if least != 0 || greatest != 0 {
					t.Errorf("Spread(%d, %d) = %d, %d", drift, n, least, greatest)
				}
			} else if least > greatest || n > 0 && least == 0 {
				t.Errorf("Spread(%d, %d) = %d, %d", drift, n, least, greatest)
			}
		}
	}
}

func TestSpreadIsExact(t *testing.T) {
	for drift := 0; drift <= 100; drift++ {
		for n := 0; n <= 300; n++ {
			least, greatest := Spread(drift, n)
			for x := 0; x <= 400; x++ {
				if possible(drift, x, n) != (least <= x && x <= greatest) {
					t.Fatalf("Spread(%d, %d) = %d, %d, but for %d the inequality is %v", drift, n, least, greatest, x, possible(drift, x, n))
				}
			}
		}
	}
}

// TestSpreadIsExactForGreatNumbers tests the ends only: what the inequality says of x has no gaps.
func TestSpreadIsExactForGreatNumbers(t *testing.T) {
	r := rand.New(rand.NewSource(2))
	for range 2000 {
		n := r.Intn(api.MaxTime + 1)
		if r.Intn(2) == 0 {
			n = api.MaxTime - r.Intn(2000)
		}
		for drift := 0; drift <= 100; drift++ {
			least, greatest := Spread(drift, n)
			if !possible(drift, least, n) || !possible(drift, greatest, n) || least > 0 && possible(drift, least-1, n) || possible(drift, greatest+1, n) {
				t.Fatalf("Spread(%d, %d) = %d, %d", drift, n, least, greatest)
			}
		}
	}
}

func TestSpreadWithoutDrift(t *testing.T) {
	for n := 0; n <= api.MaxTime; n++ {
		if least, greatest := Spread(0, n); least != n || greatest != n {
			t.Fatalf("Spread(0, %d) = %d, %d", n, least, greatest)
		}
	}
}

func TestSpreadAscendsAndWidens(t *testing.T) {
	r := rand.New(rand.NewSource(3))
	for range 20 {
		from := r.Intn(api.MaxTime - 500)
		for drift := 0; drift <= 100; drift++ {
			for n := from; n < from+500; n++ {
				least, greatest := Spread(drift, n)
				if l, g := Spread(drift, n+1); l < least || g < greatest {
					t.Fatalf("Spread(%d, %d) = %d, %d, but %d, %d for one more", drift, n, least, greatest, l, g)
				}
				if l, g := Spread(drift+1, n); drift < 100 && (l > least || g < greatest) {
					t.Fatalf("Spread(%d, %d) = %d, %d, but %d, %d with more drift", drift, n, least, greatest, l, g)
				}
			}
		}
	}
}

// P5.1: At, Before and After

func TestAtOfExamples(t *testing.T) {
	apart := api.Clock{Drift: 100, Readings: append(example().Readings, api.Reading{Local: 1110, Low: 2120, High: 2150})}
	for _, c := range []struct {
		clock              api.Clock
		local, first, last int
	}{
		{example(), 1110, 2100, 2133}, {example(), 890, 1877, 1910}, {example(), 1000, 1999, 2011}, {example(), 999, 1998, 2009}, {example(), 1001, 2001, 2012},
		{apart, 1110, 2119, 2133}, {apart, 1000, 1999, 2011}, {apart, 1050, 2053, 2066},
		{api.Clock{Drift: 3}, 5, 0, api.MaxTime}, {api.Clock{}, 0, 0, api.MaxTime}, {api.Clock{}, api.MaxTime, 0, api.MaxTime},
		{api.Clock{Readings: []api.Reading{{Local: 7, Low: 9, High: 9}}}, 7, 9, 9}, {api.Clock{Readings: []api.Reading{{Local: 7, Low: 9, High: 9}}}, 0, 2, 2},
	} {
		if first, last, e := At(c.clock, c.local); first != c.first || last != c.last || e != api.OK {
			t.Errorf("At(%v, %d) = %d, %d, %d; want %d, %d", c.clock, c.local, first, last, e, c.first, c.last)
		}
		checkAt(t, c.clock, c.local)
	}
}

func TestAtKeepsWithinTime(t *testing.T) {
	end := api.MaxTime
	for _, c := range []struct {
		reading                   api.Reading
		drift, local, first, last int
		want                      api.Errno
	}{
		{api.Reading{Local: 100, Low: 0, High: 0}, 100, 100, 0, 1, api.OK},
		{api.Reading{Local: 100, Low: 0, High: 0}, 100, 99, 0, 0, api.ErrClock},
		{api.Reading{Local: 100, Low: 0, High: 1}, 100, 99, 0, 0, api.OK},
		{api.Reading{Local: 100, Low: 5, High: 90}, 100, 90, 0, 81, api.OK},
		{api.Reading{Local: 100, Low: end, High: end}, 100, 100, end - 1, end, api.OK},
		{api.Reading{Local: 100, Low: end, High: end}, 100, 101, 0, 0, api.ErrClock},
		{api.Reading{Local: 100, Low: end - 1, High: end}, 100, 101, end, end, api.OK},
		{api.Reading{Local: 0, Low: end - 50, High: end - 5}, 0, 10, end - 40, end, api.OK},
		{api.Reading{Local: 0, Low: 0, High: 0}, 100, end, 9090909, end, api.OK},
		{api.Reading{Local: end, Low: end, High: end}, 100, 0, 0, 909091, api.OK},
		{api.Reading{Local: end, Low: 0, High: 0}, 0, 0, 0, 0, api.ErrClock},
		{api.Reading{Local: 0, Low: end, High: end}, 0, end, 0, 0, api.ErrClock},
	} {
		clock := api.Clock{Drift: c.drift, Readings: []api.Reading{c.reading}}
		if first, last, e := At(clock, c.local); first != c.first || last != c.last || e != c.want {
			t.Errorf("At(%v, %d) = %d, %d, %d; want %d, %d, %d", clock, c.local, first, last, e, c.first, c.last, c.want)
		}
	}
}

func TestAtRefuses(t *testing.T) {
	contradicting := example()
	contradicting.Readings = append(contradicting.Readings, api.Reading{Local: 1010, Low: 2500, High: 2600})
	for local := 900; local <= 1100; local++ {
		if _, _, e := checkAt(t, contradicting, local); e != api.ErrClock {
			t.Errorf("At %d of contradicting readings: %d", local, e)
		}
	}
	for _, c := range []api.Clock{{}, example(), contradicting} {
		for _, local := range extremes {
			if !definedAsTime(local) {
				checkAt(t, c, local)
			}
		}
	}
}

func TestBeforeAndAfter(t *testing.T) {
	c := example() // at 1110: 2100 to 2133
	for at, want := range map[int][2]bool{
		math.MinInt: {false, true}, -1: {false, true}, 0: {false, true}, 2099: {false, true}, 2100: {false, false}, 2101: {false, false}, 2132: {false, false},
		2133: {false, false}, 2134: {true, false}, api.MaxTime: {true, false}, math.MaxInt: {true, false},
	} {
		if Before(c, 1110, at) != want[0] || After(c, 1110, at) != want[1] {
			t.Errorf("Before and After %d: %v, %v", at, Before(c, 1110, at), After(c, 1110, at))
		}
	}
	for _, local := range []int{-1, api.MaxTime + 1, math.MinInt, math.MaxInt} {
		for _, at := range extremes {
			if Before(c, local, at) || After(c, local, at) {
				t.Errorf("Before or After(%d, %d)", local, at)
			}
		}
	}
}

func TestAtIsAsDefined(t *testing.T) {
	r := rand.New(rand.NewSource(4))
	errors := 0
	for range 3000 {
		from := []int{0, 5000, api.MaxTime - 100}[r.Intn(3)]
		c := anyClock(r, api.MaxReadings, from, from+100)
		for range 20 {
			if _, _, e := checkAt(t, c, from+r.Intn(101)); e != api.OK {
				errors++
			}
		}
	}
	if errors < 1000 || errors > 50000 {
		t.Errorf("%d of 60000 were errors", errors)
	}
}

// TestLocalSecondsAndTrueSecondsMayBeFarApart tests clocks that were set to anything.
func TestLocalSecondsAndTrueSecondsMayBeFarApart(t *testing.T) {
	r := rand.New(rand.NewSource(5))
	for range 300 {
		local, at := r.Intn(api.MaxTime-300), r.Intn(api.MaxTime-300)
		c := api.Clock{Drift: r.Intn(101)}
		for i := range 1 + r.Intn(4) {
			low := at + 50*i - r.Intn(8) + 8
			c.Readings = append(c.Readings, api.Reading{Local: local + 50*i, Low: low, High: low + r.Intn(8)})
		}
		for range 20 {
			checkAt(t, c, local+r.Intn(300))
		}
	}
}

// P5.1 and P5.5: Reads

func TestReadsOfExamples(t *testing.T) {
	exact := api.Clock{Readings: []api.Reading{{Local: 7, Low: 9, High: 9}}}
	for _, c := range []struct {
		clock               api.Clock
		at, least, greatest int
	}{
		{example(), 2005, 994, 1006}, {example(), 2000, 989, 1000}, {example(), 1999, 987, 1000}, {example(), 2011, 1000, 1013},
		{exact, 9, 7, 7}, {exact, 2, 0, 0}, {exact, 10, 8, 8}, {exact, api.MaxTime, api.MaxTime - 2, api.MaxTime - 2},
		{api.Clock{}, 0, 0, api.MaxTime}, {api.Clock{}, 77, 0, api.MaxTime}, {api.Clock{Drift: 100}, api.MaxTime, 0, api.MaxTime},
	} {
		if least, greatest, e := Reads(c.clock, c.at); least != c.least || greatest != c.greatest || e != api.OK {
			t.Errorf("Reads(%v, %d) = %d, %d, %d; want %d, %d", c.clock, c.at, least, greatest, e, c.least, c.greatest)
		}
	}
}

func TestReadsRefuses(t *testing.T) {
	expectError := func(c api.Clock, at int) {
		t.Helper()
		if least, greatest, e := Reads(c, at); least != 0 || greatest != 0 || e != api.ErrClock {
			t.Errorf("Reads(%v, %d) = %d, %d, %d", c, at, least, greatest, e)
		}
	}
	for _, at := range extremes {
		if !definedAsTime(at) {
			expectError(api.Clock{}, at)
			expectError(example(), at)
		}
	}
	expectError(example(), 0) // the clock would have to show less than 0
	expectError(example(), 880)
	late := api.Clock{Drift: 100, Readings: []api.Reading{{Local: api.MaxTime - 10, Low: 500, High: 510}}}
	expectError(late, 600) // more than MaxTime
	expectError(late, api.MaxTime)
	contradicting := api.Clock{Drift: 100, Readings: []api.Reading{{Local: 1000, Low: 2000, High: 2000}, {Local: 1001, Low: 2600, High: 2600}}}
	for at := 0; at <= 4000; at += 50 {
		expectError(contradicting, at)
	}
}

// checkReads fails unless Reads is what At says of the local seconds from from to to, and of the two ends.
func checkReads(t testing.TB, c api.Clock, at, from, to int) {
	t.Helper()
	least, greatest, e := Reads(c, at)
	if e != api.OK && (e != api.ErrClock || least != 0 || greatest != 0) || least > greatest || least < 0 || greatest > api.MaxTime {
		t.Fatalf("Reads(%v, %d) = %d, %d, %d", c, at, least, greatest, e)
	}
	locals := []int{least - 1, least, greatest, greatest + 1}
	for local := from; local <= to; local++ {
		locals = append(locals, local)
	}
	for _, local := range locals {
		if canShow(c, local, at) != (e == api.OK && least <= local && local <= greatest) {
			t.Fatalf("Reads(%v, %d) = %d, %d, %d, but of %d, At says %v", c, at, least, greatest, e, local, canShow(c, local, at))
		}
	}
}

func TestReadsIsWhatAtSays(t *testing.T) {
	r := rand.New(rand.NewSource(6))
	for range 400 {
		from := []int{0, 5000, api.MaxTime - 100}[r.Intn(3)]
		c := anyClock(r, 6, from, from+100)
		for range 20 {
			checkReads(t, c, min(from+r.Intn(140), api.MaxTime), from-20, from+120)
		}
		checkReads(t, c, r.Intn(api.MaxTime+1), from, from+100)
	}
}

func TestReadsIsWhatAtSaysOfAllLocalSeconds(t *testing.T) {
	for _, c := range []struct {
		clock api.Clock
		at    int
	}{
		{example(), 6000000},
		{api.Clock{Drift: 100, Readings: []api.Reading{{Local: 3000000, Low: 3000000, High: 3000000}, {Local: 8000000, Low: 8100000, High: 8100009}}}, 5000000},
	} {
		least, greatest, e := Reads(c.clock, c.at)
		if e != api.OK {
			t.Fatalf("Reads(%v, %d): error %d", c.clock, c.at, e)
		}
		for local := range api.MaxTime + 1 {
			if canShow(c.clock, local, c.at) != (least <= local && local <= greatest) {
				t.Fatalf("Reads(%v, %d) = %d, %d, but of %d, At says otherwise", c.clock, c.at, least, greatest, local)
			}
		}
	}
}

// P5.4

// checkNotWider fails unless At of the clock b returns no more than that of a.
func checkNotWider(t *testing.T, a, b api.Clock, local int) {
	t.Helper()
	if !Valid(a) || !Valid(b) {
		t.Fatalf("%v or %v is not valid", a, b)
	}
	first, last, e := At(a, local)
	f, l, err := At(b, local)
	if err == api.OK && (e != api.OK || f < first || l > last) {
		t.Errorf("At %d: %d, %d, %d of %v, but %d, %d of %v", local, first, last, e, a, f, l, b)
	}
}

func TestMoreIsNotWider(t *testing.T) {
	r := rand.New(rand.NewSource(7))
	for range 5000 {
		from := []int{0, 5000, api.MaxTime - 100}[r.Intn(3)]
		c := anyClock(r, api.MaxReadings, from, from+100)
		for i, x := range c.Readings {
			fewer := api.Clock{Drift: c.Drift, Readings: slices.Delete(slices.Clone(c.Readings), i, i+1)}
			narrower := api.Clock{Drift: c.Drift, Readings: slices.Clone(c.Readings)}
			narrower.Readings[i].Low += r.Intn(x.High - x.Low + 1)
			narrower.Readings[i].High -= r.Intn(x.High - narrower.Readings[i].Low + 1)
			for range 5 {
				local := from + r.Intn(101)
				checkNotWider(t, fewer, c, local)
				checkNotWider(t, c, narrower, local)
			}
		}
	}
}

// P5.7

func TestMovedReadingsMoveWhatAtReturns(t *testing.T) {
	r := rand.New(rand.NewSource(8))
	moved := func(c api.Clock, by int) api.Clock {
		out := api.Clock{Drift: c.Drift}
		for _, x := range c.Readings {
			out.Readings = append(out.Readings, api.Reading{Local: x.Local, Low: x.Low + by, High: x.High + by})
		}
		return out
	}
	compared := 0
	for range 20000 {
		c := anyClock(r, 5, 1000, 1100)
		by := []int{-1000, -900, -1, 1, 7, 5000, api.MaxTime - 1200, api.MaxTime - 1100}[r.Intn(8)]
		local := 900 + r.Intn(300)
		first, last, e := At(c, local)
		f, l, err := At(moved(c, by), local)
		if len(c.Readings) == 0 || first == 0 || f == 0 || last == api.MaxTime || l == api.MaxTime {
			continue
		}
		compared++
		if e != api.OK || err != api.OK || f != first+by || l != last+by {
			t.Errorf("At(%v, %d) = %d, %d, %d; moved by %d: %d, %d, %d", c, local, first, last, e, by, f, l, err)
		}
	}
	if compared < 5000 {
		t.Errorf("only %d were compared", compared)
	}
}

// R3 and R4

func TestArgumentsAreNotChanged(t *testing.T) {
	r := rand.New(rand.NewSource(9))
	for range 200 {
		c := anyClock(r, 8, 0, 100)
		before := slices.Clone(c.Readings)
		spare := make([]api.Reading, len(before)+3)
		for i := range spare {
			spare[i] = api.Reading{Local: -7, Low: -8, High: -9}
		}
		copy(spare, before)
		all := slices.Clone(spare)
		c.Readings = spare[:len(before)]
		local := r.Intn(100)
		first, last, e := At(c, local)
		least, greatest, f := Reads(c, local)
		Valid(c)
		Before(c, local, 50)
		After(c, local, 50)
		if !slices.Equal(spare, all) {
			t.Fatalf("%v became %v", all, spare)
		}
		if first2, last2, e2 := At(c, local); first2 != first || last2 != last || e2 != e {
			t.Errorf("At(%v, %d) is not the same again", c, local)
		}
		if least2, greatest2, f2 := Reads(c, local); least2 != least || greatest2 != greatest || f2 != f {
			t.Errorf("Reads(%v, %d) is not the same again", c, local)
		}
	}
}

func FuzzClock(f *testing.F) {
	f.Add(100, 1000, 2000, 2010, 1110, 2120, 2150, 1050, 2055)
	f.Add(0, 7, 9, 9, 8, 10, 10, 0, 2)
	f.Add(-1, 0, 0, 0, 0, 0, 0, 0, 0)
	f.Fuzz(func(t *testing.T, drift, local1, low1, high1, local2, low2, high2, local, at int) {
		c := api.Clock{Drift: drift, Readings: []api.Reading{{Local: local1, Low: low1, High: high1}, {Local: local2, Low: low2, High: high2}}}
		if Valid(c) != definedAsValid(c) {
			t.Fatalf("Valid(%v) = %v", c, Valid(c))
		}
		if max(local, local1, local2)-min(local, local1, local2) < 10000 {
			checkAt(t, c, local)
		}
		if Valid(c) && definedAsTime(at) {
			checkReads(t, c, at, local-5, local+5)
		} else if least, greatest, e := Reads(c, at); least != 0 || greatest != 0 || e != api.ErrClock {
			t.Fatalf("Reads(%v, %d) = %d, %d, %d", c, at, least, greatest, e)
		}
	})
}
