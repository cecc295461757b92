package equal_test

import (
	"math/rand"
	"slices"
	"testing"

	"aircheck/api"
	"aircheck/equal"
)

// This file has the theorems of the chapter as properties.

// P13.2

// checkEquality fails unless what each candidate has had and may claim is the greatest one of what they have had.
func checkEquality(t *testing.T, n int, l []api.Appearance, now int) {
	t.Helper()
	had, rest := totals(t, n, l, now), owed(t, n, l, now)
	if len(had) != n || len(rest) != n {
		t.Fatalf("of %d candidates, %v have had something, and %v may claim something", n, had, rest)
	}
	for k := range n {
		if had[k]+rest[k] != slices.Max(had) || had[k] < 0 || rest[k] < 0 {
			t.Fatalf("at %d of %v the totals are %v, and %v are owed", now, l, had, rest)
		}
	}
}

func TestAllCandidatesAreEqual(t *testing.T) {
	random := rand.New(rand.NewSource(10))
	for range 4000 {
		n, l, s := anyCase(random)
		for range 4 {
			checkEquality(t, n, l, anyNow(random, s))
		}
		checkEquality(t, n, l, 20000000)
	}
}

func TestCandidatesOfShortListsAreEqual(t *testing.T) {
	for _, l := range shortLists(3, 4, 4) {
		checkEquality(t, 3, l, 100)
	}
	checkEquality(t, 8, full(), 10000000)
	checkEquality(t, 5, nil, 0)
}

// P13.3

// inOrder returns the appearances in another order, given by indices, at the same seconds.
func inOrder(l []api.Appearance, indices []int) []api.Appearance {
	var out []api.Appearance
	for k, index := range indices {
		x := l[index]
		x.At = l[k].At
		out = append(out, x)
	}
	return out
}

func TestTheOrderOfAppearancesPlaysNoPart(t *testing.T) {
	random := rand.New(rand.NewSource(11))
	for range 2000 {
		n, l, _ := anyCase(random)
		want, had := owed(t, n, l, 10000000), totals(t, n, l, 10000000)
		for range 4 {
			other := inOrder(l, random.Perm(len(l)))
			if got := owed(t, n, other, 10000000); !slices.Equal(got, want) {
				t.Fatalf("of %v are owed %v; in the order %v %v", l, want, other, got)
			}
			if got := totals(t, n, other, 10000000); !slices.Equal(got, had) {
				t.Fatalf("of %v the totals are %v; in the order %v %v", l, had, other, got)
			}
		}
	}
}

// orders returns the numbers from 0 to n - 1 in all orders.
func orders(n int) [][]int {
	if n == 0 {
		return [][]int{nil}
	}
	var out [][]int
	for _, o := range orders(n - 1) {
		for place := range n {
			out = append(out, slices.Insert(slices.Clone(o), place, n-1))
		}
	}
	return out
}

func TestAllOrdersOfShortLists(t *testing.T) {
	random := rand.New(rand.NewSource(12))
	for range 100 {
		n := 2 + random.Intn(3)
		l := anyAppearances(random, n, 5, scales()[random.Intn(len(scales()))])
		want := owed(t, n, l, 10000000)
		for _, order := range orders(len(l)) {
			if got := owed(t, n, inOrder(l, order), 10000000); !slices.Equal(got, want) {
				t.Fatalf("of %v are owed %v; in the order %v %v", l, want, order, got)
			}
		}
	}
}

// P13.4

// atFirst returns what each other candidate may claim of the appearance with the index of as soon as it is on the air.
func atFirst(t *testing.T, n int, l []api.Appearance, of int) int {
	t.Helper()
	for _, c := range claims(t, n, l, l[of].At) {
		if c.Of == of {
			return c.Rest
		}
	}
	t.Fatalf("of %v the appearance %d has no claims", l, of)
	return 0
}

// checkOrder fails unless the open claims ascend, and each has the Rest and the Until that the theorem says. It returns how many have less Rest than at first.
func checkOrder(t *testing.T, n int, l []api.Appearance, now int) int {
	t.Helper()
	open := claims(t, n, l, now)
	seen, less := map[int]bool{}, 0
	for k, c := range open {
		if k > 0 && (c.Of < open[k-1].Of || c.Of == open[k-1].Of && c.Candidate <= open[k-1].Candidate) {
			t.Fatalf("%v do not ascend", open)
		}
		if c.Rest <= 0 || c.Until != l[c.Of].At+604800 || l[c.Of].At > now || c.Candidate == l[c.Of].Candidate || c.Candidate < 0 || c.Candidate >= n {
			t.Fatalf("%v is open at %d, of %v", c, now, l)
		}
		first := atFirst(t, n, l, c.Of)
		if c.Rest > first || c.Rest < first && seen[c.Candidate] {
			t.Fatalf("of %v %v is open at %d, of which at first were claimed %d", open, c, now, first)
		}
		if c.Rest < first {
			less++
		}
		seen[c.Candidate] = true
	}
	return less
}

func TestTheOldestClaimsAreServedFirst(t *testing.T) {
	random := rand.New(rand.NewSource(13))
	less := 0
	for range 600 {
		n, l, s := anyCase(random)
		for range 3 {
			less += checkOrder(t, n, l, anyNow(random, s))
		}
	}
	if less < 1000 {
		t.Errorf("%d claims had less than at first", less)
	}
}

func TestOpenClaimsOfShortLists(t *testing.T) {
	for _, l := range shortLists(3, 4, 3) {
		checkOrder(t, 3, l, 100)
	}
}

// P13.5

// serving returns appearances of the claim's candidate that are worth as much as the claim: one, if one can be.
func serving(c api.Claim, at int) []api.Appearance {
	for weight := 1; weight <= 10; weight++ {
		if c.Rest%weight == 0 && c.Rest/weight <= 3600 {
			return []api.Appearance{{Candidate: c.Candidate, At: at, Seconds: c.Rest / weight, Weight: weight}}
		}
	}
	return []api.Appearance{
		{Candidate: c.Candidate, At: at, Seconds: 3600, Weight: c.Rest / 3600},
		{Candidate: c.Candidate, At: at + 1, Seconds: c.Rest % 3600, Weight: 1},
	}
}

// checkServing fails unless serving the next claim removes it and changes no other one, and, as long as there is one and room for it, the one after it; the totals are equal then. It returns how many claims were served, and whether none was left.
func checkServing(t *testing.T, n int, l []api.Appearance) (int, bool) {
	t.Helper()
	for served := 0; ; served++ {
		now := 0
		if len(l) > 0 {
			now = l[len(l)-1].At
		}
		open := claims(t, n, l, now)
		next, ok := equal.Next(n, l, now)
		if ok != (len(open) > 0) {
			t.Fatalf("of %v %v is the next claim, %v", open, next, ok)
		}
		if !ok {
			had := totals(t, n, l, now)
			if slices.Min(had) != slices.Max(had) {
				t.Fatalf("without claims the totals are %v", had)
			}
			return served, true
		}
		more := serving(next, now+1)
		if len(l)+len(more) > 60 {
			return served, false
		}
		l = append(slices.Clone(l), more...)
		if got := claims(t, n, l, l[len(l)-1].At); next != open[0] || !slices.Equal(got, open[1:]) {
			t.Fatalf("%v are open; when %v has served %v, %v", open, more, next, got)
		}
	}
}

func TestServingAllClaimsMakesTheTotalsEqual(t *testing.T) {
	random := rand.New(rand.NewSource(14))
	served, done := 0, 0
	for range 2000 {
		s := scales()[random.Intn(len(scales()))]
		s.from = min(s.from, 9999000)
		n := 2 + random.Intn(7)
		l := slices.DeleteFunc(anyAppearances(random, n, random.Intn(60/n), s), func(x api.Appearance) bool { return x.At > 9999900 })
		count, all := checkServing(t, n, l)
		served += count
		if all {
			done++
		}
	}
	if served < 10000 || done < 1500 {
		t.Errorf("%d claims were served, in %d cases all", served, done)
	}
}

func TestServingTheClaimsOfShortLists(t *testing.T) {
	for _, l := range shortLists(3, 3, 4) {
		if _, all := checkServing(t, 3, l); !all {
			t.Fatalf("of %v not all claims could be served", l)
		}
	}
	if _, all := checkServing(t, 8, []api.Appearance{{Candidate: 3, At: 0, Seconds: 3600, Weight: 10}}); !all {
		t.Error("the claims of the greatest appearance could not be served")
	}
}

// P13.6

// until returns the appearances until now.
func until(l []api.Appearance, now int) []api.Appearance {
	return slices.DeleteFunc(slices.Clone(l), func(x api.Appearance) bool { return x.At > now })
}

func TestLaterAppearancesPlayNoPart(t *testing.T) {
	random := rand.New(rand.NewSource(15))
	for range 3000 {
		n, l, s := anyCase(random)
		now := s.second(random)
		early := until(l, now)
		other := slices.Clone(early)
		for _, at := range anySeconds(random, s, 60-len(early)) {
			if at > now {
				other = append(other, api.Appearance{Candidate: random.Intn(n), At: at, Seconds: 1 + random.Intn(3600), Weight: 1 + random.Intn(10)})
			}
		}
		for _, m := range [][]api.Appearance{early, other} {
			a, _ := equal.Next(n, l, now)
			b, _ := equal.Next(n, m, now)
			if a != b || !slices.Equal(claims(t, n, l, now), claims(t, n, m, now)) || !slices.Equal(overdue(t, n, l, now), overdue(t, n, m, now)) ||
				!slices.Equal(owed(t, n, l, now), owed(t, n, m, now)) || !slices.Equal(totals(t, n, l, now), totals(t, n, m, now)) {
				t.Fatalf("at %d %v and %v differ, for %d candidates", now, l, m, n)
			}
		}
	}
}

func TestAnOverdueClaimStaysSo(t *testing.T) {
	random := rand.New(rand.NewSource(16))
	grown := 0
	for range 3000 {
		n, l, s := anyCase(random)
		now := anyNow(random, s)
		last := 20000000
		for _, x := range slices.Backward(l) {
			if x.At > now {
				last = x.At - 1
			}
		}
		early := overdue(t, n, l, now)
		for _, then := range []int{now, min(now+1, last), min(now+604800, last), now + random.Intn(last-now+1), last} {
			late := overdue(t, n, l, then)
			if len(late) < len(early) || !slices.Equal(late[:len(early)], early) {
				t.Fatalf("of %v at %d %v are overdue, at %d %v", l, now, early, then, late)
			}
			if len(late) > len(early) {
				grown++
			}
		}
	}
	if grown < 1000 {
		t.Errorf("more claims were overdue in %d cases", grown)
	}
}

// P13.7

// divide returns l with the appearance with this index divided into two, of which the second one begins at the second at.
func divide(l []api.Appearance, index, first, at int) []api.Appearance {
	second := l[index]
	second.At = at
	second.Seconds -= first
	out := slices.Insert(slices.Clone(l), index+1, second)
	out[index].Seconds = first
	return out
}

func TestADividedAppearanceIsTheSame(t *testing.T) {
	random := rand.New(rand.NewSource(17))
	divided := 0
	for range 1000 {
		n, l, s := anyCase(random)
		l = l[:min(len(l), 59)]
		for index, x := range l {
			end := 10000001 // the second before which the second part has to begin
			if index+1 < len(l) {
				end = l[index+1].At
			}
			if x.Seconds == 1 || x.At+1 >= end {
				continue
			}
			divided++
			first := 1 + random.Intn(x.Seconds-1)
			at := x.At + 1 + random.Intn(end-x.At-1)
			if x.At+first < end && random.Intn(2) == 0 {
				at = x.At + first
			}
			other := divide(l, index, first, at)
			for _, now := range []int{max(x.At-1, 0), at, 10000000, anyNow(random, s)} {
				if now >= x.At && now < at {
					continue
				}
				if a, b := totals(t, n, l, now), totals(t, n, other, now); !slices.Equal(a, b) {
					t.Fatalf("at %d the totals of %v are %v, of %v %v", now, l, a, other, b)
				}
				if a, b := owed(t, n, l, now), owed(t, n, other, now); !slices.Equal(a, b) {
					t.Fatalf("at %d of %v are owed %v, of %v %v", now, l, a, other, b)
				}
			}
		}
	}
	if divided < 8000 {
		t.Errorf("%d appearances were divided", divided)
	}
}

func TestDividedAppearancesOfShortLists(t *testing.T) {
	for _, l := range shortLists(3, 3, 4) {
		for index, x := range l {
			for first := 1; first < x.Seconds; first++ {
				other := divide(l, index, first, x.At+1)
				if !slices.Equal(totals(t, 3, l, 100), totals(t, 3, other, 100)) || !slices.Equal(owed(t, 3, l, 100), owed(t, 3, other, 100)) {
					t.Fatalf("%v and %v are not the same", l, other)
				}
			}
		}
	}
}
