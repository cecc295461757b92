package equal_test

import (
	"math"
	"math/rand"
	"slices"
	"testing"

	"aircheck/api"
	"aircheck/equal"
)

// This file has what the tests share: the chapter's words as slow functions, appearances to try, and checks against those words.

// definedAsValid reports whether l is valid for n candidates in the words of the chapter.
func definedAsValid(n int, l []api.Appearance) bool {
	if n < 2 || n > 8 || len(l) > 60 {
		return false
	}
	last := -1
	for _, x := range l {
		for _, bound := range [][3]int{{x.Candidate, 0, n - 1}, {x.At, last + 1, 10000000}, {x.Seconds, 1, 3600}, {x.Weight, 1, 10}} {
			if bound[0] < bound[1] || bound[0] > bound[2] {
				return false
			}
		}
		last = x.At
	}
	return true
}

// definedAsNow reports whether now is a second for which the functions may be asked.
func definedAsNow(now int) bool {
	return now >= 0 && now <= 20000000
}

// definedClaims returns the open claims at now: one list of all claims, on which each appearance acts as the chapter says.
func definedClaims(n int, l []api.Appearance, now int) []api.Claim {
	var open []api.Claim
	for index, x := range l {
		if x.At > now {
			continue
		}
		left := x.Seconds * x.Weight
		for k := 0; k < len(open); {
			if open[k].Candidate == x.Candidate {
				taken := left
				if open[k].Rest < left {
					taken = open[k].Rest
				}
				open[k].Rest -= taken
				left -= taken
			}
			if open[k].Rest == 0 {
				open = append(open[:k], open[k+1:]...)
			} else {
				k++
			}
		}
		for candidate := 0; candidate < n && left > 0; candidate++ {
			if candidate != x.Candidate {
				open = append(open, api.Claim{Candidate: candidate, Of: index, Rest: left, Until: x.At + 604800})
			}
		}
	}
	return open
}

// definedOverdue returns those of the claims whose Until is less than now.
func definedOverdue(open []api.Claim, now int) []api.Claim {
	var out []api.Claim
	for _, c := range open {
		if c.Until < now {
			out = append(out, c)
		}
	}
	return out
}

// definedTotals returns the sums of the worths of the appearances until now.
func definedTotals(n int, l []api.Appearance, now int) []int {
	out := make([]int, n)
	for _, x := range l {
		if x.At <= now {
			out[x.Candidate] += x.Seconds * x.Weight
		}
	}
	return out
}

// definedOwed returns the sums of the Rests of the claims.
func definedOwed(n int, open []api.Claim) []int {
	out := make([]int, n)
	for _, c := range open {
		out[c.Candidate] += c.Rest
	}
	return out
}

// three returns the appearances of the chapter's examples, for three candidates.
func three() []api.Appearance {
	return []api.Appearance{{Candidate: 0, At: 100, Seconds: 10, Weight: 2}, {Candidate: 1, At: 200, Seconds: 15, Weight: 2}, {Candidate: 0, At: 300, Seconds: 4, Weight: 1}}
}

// appearancesOf returns appearances from pairs of a candidate and a worth, at the seconds 10, 20 and so on.
func appearancesOf(pairs ...[2]int) []api.Appearance {
	var out []api.Appearance
	for k, p := range pairs {
		out = append(out, api.Appearance{Candidate: p[0], At: 10 * (k + 1), Seconds: p[1], Weight: 1})
	}
	return out
}

// extremes are numbers around every bound of candidates, appearances and seconds, and far from them.
var extremes = []int{math.MinInt, math.MinInt + 1, -1 << 62, -1 << 32, -1 << 31, -10000000, -604800, -3, -2, -1, 0, 1, 2, 3, 4, 7, 8, 9, 10, 11, 12, 59, 60, 61, 99, 100, 101, 200, 299, 300, 301, 3599, 3600, 3601, 604799, 604800, 604801, 604900, 604901, 9999999, 10000000, 10000001, 10604800, 10604801, 19999999, 20000000, 20000001, 1 << 31, 1<<31 + 1, 1 << 32, 1<<32 + 1, 1<<32 + 2, 1<<62 - 1, 1 << 62, math.MaxInt - 1, math.MaxInt}

// scale is seconds and worths to try.
type scale struct {
	from, step, count int
	seconds, weight   int // the greatest ones
}

// second returns one of the seconds.
func (s scale) second(random *rand.Rand) int {
	return s.from + s.step*random.Intn(s.count)
}

// scales are seconds at the beginning, in an hour, in weeks and in the whole time, and at its end, with worths that often are the same, and with great ones.
func scales() []scale {
	return []scale{
		{0, 1, 80, 2, 2},
		{7200, 60, 60, 5, 1},
		{1000, 100800, 90, 3600, 10},
		{0, 604800, 16, 30, 3},
		{0, 1000, 10001, 600, 10},
		{10000000 - 90, 1, 91, 3600, 10},
		{5000000, 3600, 70, 1, 1},
	}
}

// anySeconds returns at most this many seconds of the scale, ascending.
func anySeconds(random *rand.Rand, s scale, most int) []int {
	var out []int
	for range most {
		out = append(out, s.second(random))
	}
	slices.Sort(out)
	return slices.Compact(out)
}

// anyAppearances returns at most this many valid appearances of n candidates.
func anyAppearances(random *rand.Rand, n, most int, s scale) []api.Appearance {
	var out []api.Appearance
	usual := random.Intn(n)
	for _, at := range anySeconds(random, s, most) {
		x := api.Appearance{Candidate: random.Intn(n), At: at, Seconds: 1 + random.Intn(s.seconds), Weight: 1 + random.Intn(s.weight)}
		if random.Intn(4) == 0 {
			x.Candidate = usual
		}
		out = append(out, x)
	}
	return out
}

// anyCase returns a number of candidates, valid appearances, and the scale of their seconds.
func anyCase(random *rand.Rand) (int, []api.Appearance, scale) {
	s := scales()[random.Intn(len(scales()))]
	n := 2 + random.Intn(7)
	return n, anyAppearances(random, n, random.Intn(61), s), s
}

// anyNow returns a second of the scale, or one at which claims of it may be overdue.
func anyNow(random *rand.Rand, s scale) int {
	now := s.second(random)
	if random.Intn(2) == 0 {
		now += 604800 - 2 + random.Intn(5)
	}
	if random.Intn(10) == 0 {
		now = random.Intn(20000001)
	}
	return now
}

// claims returns what Claims returns of valid arguments.
func claims(t testing.TB, n int, l []api.Appearance, now int) []api.Claim {
	t.Helper()
	out, e := equal.Claims(n, l, now)
	if e != api.OK {
		t.Fatalf("Claims(%d, %v, %d): the error %d", n, l, now, e)
	}
	return out
}

// overdue returns what Overdue returns of valid arguments.
func overdue(t testing.TB, n int, l []api.Appearance, now int) []api.Claim {
	t.Helper()
	out, e := equal.Overdue(n, l, now)
	if e != api.OK {
		t.Fatalf("Overdue(%d, %v, %d): the error %d", n, l, now, e)
	}
	return out
}

// totals returns what Totals returns of valid arguments.
func totals(t testing.TB, n int, l []api.Appearance, now int) []int {
	t.Helper()
	out, e := equal.Totals(n, l, now)
	if e != api.OK {
		t.Fatalf("Totals(%d, %v, %d): the error %d", n, l, now, e)
	}
	return out
}

// owed returns what Owed returns of valid arguments.
func owed(t testing.TB, n int, l []api.Appearance, now int) []int {
	t.Helper()
	out, e := equal.Owed(n, l, now)
	if e != api.OK {
		t.Fatalf("Owed(%d, %v, %d): the error %d", n, l, now, e)
	}
	return out
}

// checkCase fails unless all functions do what the chapter says for these arguments, whatever they are.
func checkCase(t testing.TB, n int, l []api.Appearance, now int) {
	t.Helper()
	valid := definedAsValid(n, l)
	if equal.Valid(n, l) != valid {
		t.Fatalf("Valid(%d, %v) = %v", n, l, !valid)
	}
	if !valid || !definedAsNow(now) {
		refusesNow(t, n, l, now)
		return
	}
	open := definedClaims(n, l, now)
	if got := claims(t, n, l, now); !slices.Equal(got, open) {
		t.Fatalf("Claims(%d, %v, %d) = %v; want %v", n, l, now, got, open)
	}
	if got, want := overdue(t, n, l, now), definedOverdue(open, now); !slices.Equal(got, want) {
		t.Fatalf("Overdue(%d, %v, %d) = %v; want %v", n, l, now, got, want)
	}
	if got, want := totals(t, n, l, now), definedTotals(n, l, now); !slices.Equal(got, want) {
		t.Fatalf("Totals(%d, %v, %d) = %v; want %v", n, l, now, got, want)
	}
	if got, want := owed(t, n, l, now), definedOwed(n, open); !slices.Equal(got, want) {
		t.Fatalf("Owed(%d, %v, %d) = %v; want %v", n, l, now, got, want)
	}
	var first api.Claim
	if len(open) > 0 {
		first = open[0]
	}
	if got, ok := equal.Next(n, l, now); got != first || ok != (len(open) > 0) {
		t.Fatalf("Next(%d, %v, %d) = %v, %v; want %v", n, l, now, got, ok, first)
	}
}

// refusesNow fails unless all functions with a second refuse their arguments.
func refusesNow(t testing.TB, n int, l []api.Appearance, now int) {
	t.Helper()
	open, e := equal.Claims(n, l, now)
	late, f := equal.Overdue(n, l, now)
	if len(open) != 0 || len(late) != 0 || e != api.ErrEqual || f != api.ErrEqual {
		t.Fatalf("Claims and Overdue of %d, %v, %d: %v, %d and %v, %d", n, l, now, open, e, late, f)
	}
	had, e := equal.Totals(n, l, now)
	rest, f := equal.Owed(n, l, now)
	if len(had) != 0 || len(rest) != 0 || e != api.ErrEqual || f != api.ErrEqual {
		t.Fatalf("Totals and Owed of %d, %v, %d: %v, %d and %v, %d", n, l, now, had, e, rest, f)
	}
	if first, ok := equal.Next(n, l, now); first != (api.Claim{}) || ok {
		t.Fatalf("Next(%d, %v, %d) = %v, %v", n, l, now, first, ok)
	}
}

// refuses fails unless all functions refuse l, which is not valid for n candidates, at every second.
func refuses(t testing.TB, n int, l []api.Appearance) {
	t.Helper()
	if equal.Valid(n, l) {
		t.Errorf("%v are valid for %d candidates", l, n)
	}
	for _, now := range []int{-1, 0, 1, 100, 500, 10000000, 20000000, 20000001} {
		refusesNow(t, n, l, now)
	}
}
