package contract_test

import (
	"math/rand"
	"slices"
	"testing"

	"aircheck/api"
	"aircheck/contract"
)

// This file has the theorems of the chapter as properties. Spots with the same numbers are the same spot there, so that what counts is compared by the spots themselves.

// P12.2

// keepsBounds reports whether the spots are in their windows and weeks, each at another second or of another contract, and as many and as far apart as the contracts say.
func keepsBounds(l []api.Contract, spots []api.Spot) bool {
	for k, x := range spots {
		c, ok := contractWith(l, x.Contract)
		if !ok || x.At < c.Window.From || x.At >= c.Window.To || !definedToHave(c.Week, x.At) {
			return false
		}
		for _, y := range spots[:k] {
			d, _ := contractWith(l, y.Contract)
			if x == y || definedToCompete(c, d) && definedAsTooNear(c, d, x.At, y.At) {
				return false
			}
		}
	}
	for _, c := range l {
		all, daily := 0, map[int]int{}
		for _, x := range spots {
			if x.Contract == c.ID {
				all++
				daily[x.At/86400]++
			}
		}
		for _, n := range daily {
			if n > c.PerDay {
				return false
			}
		}
		if all > c.Count {
			return false
		}
	}
	return true
}

func TestWhatCountsKeepsEveryBound(t *testing.T) {
	random := rand.New(rand.NewSource(10))
	broken, many := 0, 0
	for range 4000 {
		l, spots, _ := anyCase(random)
		have := counted(t, l, spots)
		if !keepsBounds(l, have) {
			t.Fatalf("of %v count %v, by %v", spots, have, l)
		}
		if !keepsBounds(l, spots) {
			broken++
		}
		if len(have) > 10 {
			many++
		}
	}
	if broken < 1000 || many < 500 {
		t.Errorf("%d lists would break a bound, of %d count many", broken, many)
	}
}

func TestWhatCountsOfSmallListsKeepsEveryBound(t *testing.T) {
	spots := spotsOf([2]int{1, 86399}, [2]int{1, 86400}, [2]int{2, 86398}, [2]int{2, 86399}, [2]int{4, 86399}, [2]int{4, 86400})
	for _, l := range smallContracts() {
		for _, list := range lists(spots, 4) {
			if have := counted(t, l, list); !keepsBounds(l, have) {
				t.Fatalf("of %v count %v, by %v", list, have, l)
			}
		}
	}
}

// P12.3

func TestWithoutASpotThatDoesNotCountTheSameOnesCount(t *testing.T) {
	random := rand.New(rand.NewSource(11))
	for range 1000 {
		l, spots, _ := anyCase(random)
		have := counted(t, l, spots)
		indices, _ := contract.Counted(l, spots)
		for k := range spots {
			if slices.Contains(indices, k) {
				continue
			}
			if got := counted(t, l, slices.Delete(slices.Clone(spots), k, k+1)); !slices.Equal(got, have) {
				t.Fatalf("of %v count %v; without the spot %d, which does not count, %v", spots, have, k, got)
			}
		}
		if got := counted(t, l, have); !slices.Equal(got, have) {
			t.Fatalf("%v count; of these alone %v", have, got)
		}
	}
}

func TestWithASpotTwiceTheSameOnesCount(t *testing.T) {
	random := rand.New(rand.NewSource(12))
	for range 1000 {
		l, spots, _ := anyCase(random)
		spots = spots[:min(len(spots), 59)]
		have := counted(t, l, spots)
		for _, x := range spots {
			twice := slices.Insert(slices.Clone(spots), random.Intn(len(spots)+1), x)
			if got := counted(t, l, twice); !slices.Equal(got, have) {
				t.Fatalf("of %v count %v; with %v twice %v", spots, have, x, got)
			}
		}
	}
}

// P12.4

func TestTheOrderOfSpotsPlaysNoPart(t *testing.T) {
	random := rand.New(rand.NewSource(13))
	for range 2000 {
		l, spots, s := anyCase(random)
		have := counted(t, l, spots)
		x := anySpot(random, l, s)
		why := reason(t, l, spots, x)
		short := missing(t, l, spots, x.At)
		may, _ := contract.May(l, spots, x.At)
		for range 4 {
			random.Shuffle(len(spots), func(a, b int) { spots[a], spots[b] = spots[b], spots[a] })
			other, _ := contract.May(l, spots, x.At)
			if !slices.Equal(counted(t, l, spots), have) || reason(t, l, spots, x) != why || !slices.Equal(missing(t, l, spots, x.At), short) || !slices.Equal(other, may) {
				t.Fatalf("of %v, in another order, other spots than %v count, by %v", spots, have, l)
			}
		}
	}
}

// orders returns the list in all orders.
func orders(spots []api.Spot) [][]api.Spot {
	if len(spots) == 0 {
		return [][]api.Spot{nil}
	}
	var out [][]api.Spot
	for k, x := range spots {
		for _, rest := range orders(slices.Delete(slices.Clone(spots), k, k+1)) {
			out = append(out, append([]api.Spot{x}, rest...))
		}
	}
	return out
}

func TestAllOrdersOfSmallLists(t *testing.T) {
	random := rand.New(rand.NewSource(14))
	for range 60 {
		s := scales()[random.Intn(len(scales()))]
		l := anyContracts(random, 1+random.Intn(4), s)
		spots := anySpots(random, l, s, 5)
		have := counted(t, l, spots)
		for _, other := range orders(spots) {
			if got := counted(t, l, other); !slices.Equal(got, have) {
				t.Fatalf("of %v count %v, of %v %v", spots, have, other, got)
			}
		}
	}
}

// P12.5

// atTheEnd returns whether x is not earlier than any of the spots, and for the same second has no lesser contract.
func atTheEnd(spots []api.Spot, x api.Spot) bool {
	for _, y := range spots {
		if x.At < y.At || x.At == y.At && x.Contract < y.Contract {
			return false
		}
	}
	return true
}

// checkLast fails unless x, at the end of the spots, counts exactly if Reason is 0, and the same ones of the others count, wherever x is in the list.
func checkLast(t *testing.T, random *rand.Rand, l []api.Contract, spots []api.Spot, x api.Spot) bool {
	t.Helper()
	want := counted(t, l, spots)
	ok := reason(t, l, spots, x) == 0
	if ok {
		want = append(want, x)
	}
	indices, _ := contract.Counted(l, append(slices.Clone(spots), x))
	if slices.Contains(indices, len(spots)) != ok {
		t.Fatalf("of %v, with %v behind them, count %v; the reason is 0: %v", spots, x, indices, ok)
	}
	if got := counted(t, l, slices.Insert(slices.Clone(spots), random.Intn(len(spots)+1), x)); !slices.Equal(got, want) {
		t.Fatalf("of %v, with %v among them, count %v; want %v", spots, x, got, want)
	}
	return ok
}

func TestTheLastSpotCountsIfItsReasonIsNone(t *testing.T) {
	random := rand.New(rand.NewSource(15))
	results := map[bool]int{}
	for range 4000 {
		l, spots, s := anyCase(random)
		spots = spots[:min(len(spots), 59)]
		x := anySpot(random, l, s)
		if random.Intn(3) == 0 && len(spots) > 0 {
			x.At = slices.MaxFunc(spots, func(a, b api.Spot) int { return a.At - b.At }).At
		}
		spots = slices.DeleteFunc(spots, func(y api.Spot) bool { return !atTheEnd([]api.Spot{y}, x) })
		results[checkLast(t, random, l, spots, x)]++
	}
	if results[true] < 500 || results[false] < 500 {
		t.Errorf("the last spot counted: %v", results)
	}
}

func TestTheLastSpotOfSmallLists(t *testing.T) {
	random := rand.New(rand.NewSource(16))
	spots := spotsOf([2]int{1, 86398}, [2]int{1, 86400}, [2]int{2, 86398}, [2]int{2, 86400}, [2]int{4, 86399}, [2]int{4, 86400})
	for _, l := range smallContracts() {
		for _, list := range lists(spots, 3) {
			for _, x := range spots {
				if atTheEnd(list, x) {
					checkLast(t, random, l, list, x)
				}
			}
		}
	}
}

func TestMayIsWhatCountsAtTheEnd(t *testing.T) {
	random := rand.New(rand.NewSource(17))
	for range 1000 {
		l, spots, s := anyCase(random)
		spots = spots[:min(len(spots), 59)]
		at := s.second(random)
		spots = slices.DeleteFunc(spots, func(y api.Spot) bool { return y.At >= at })
		may, e := contract.May(l, spots, at)
		if e != api.OK {
			t.Fatalf("May(%v, %v, %d): the error %d", l, spots, at, e)
		}
		for _, c := range l {
			x := api.Spot{Contract: c.ID, At: at}
			if slices.Contains(counted(t, l, append(slices.Clone(spots), x)), x) != slices.Contains(may, c.ID) {
				t.Fatalf("May(%v, %v, %d) = %v, but a spot of %d", l, spots, at, may, c.ID)
			}
		}
	}
}

// P12.6

// before returns the spots before a second.
func before(spots []api.Spot, at int) []api.Spot {
	return slices.DeleteFunc(slices.Clone(spots), func(x api.Spot) bool { return x.At >= at })
}

func TestLaterSpotsPlayNoPart(t *testing.T) {
	random := rand.New(rand.NewSource(18))
	for range 2000 {
		l, spots, s := anyCase(random)
		have := counted(t, l, spots)
		for range 6 {
			at := s.second(random)
			early := before(spots, at)
			if got := counted(t, l, early); !slices.Equal(got, before(have, at)) {
				t.Fatalf("of %v count %v; of those before %d %v", spots, have, at, got)
			}
			for len(early) < 60 && random.Intn(20) > 0 {
				late := anySpot(random, l, s)
				late.At = max(late.At, at)
				early = slices.Insert(early, random.Intn(len(early)+1), late)
			}
			if got := counted(t, l, early); !slices.Equal(before(got, at), before(have, at)) {
				t.Fatalf("of %v count %v; of %v, which are the same before %d, %v", spots, have, early, at, got)
			}
		}
	}
}

// P12.7

func TestWhatIsMissingAndWhatCountsAreAll(t *testing.T) {
	random := rand.New(rand.NewSource(19))
	over, open := 0, 0
	for range 2000 {
		l, spots, s := anyCase(random)
		have := counted(t, l, spots)
		for _, now := range []int{s.second(random), s.second(random), 10000000} {
			short := missing(t, l, spots, now)
			if len(short) != len(l) {
				t.Fatalf("Missing(%v, %v, %d) = %v", l, spots, now, short)
			}
			later := missing(t, l, spots, now+random.Intn(10000001-now))
			for k, c := range l {
				if c.Window.To > now {
					open++
					if short[k] != 0 {
						t.Fatalf("at %d are missing %d of %v", now, short[k], c)
					}
					continue
				}
				over++
				n := 0
				for _, x := range have {
					if x.Contract == c.ID {
						n++
					}
				}
				if short[k]+n != c.Count || short[k] != later[k] {
					t.Fatalf("of %v count %d; at %d are missing %d, later %d", c, n, now, short[k], later[k])
				}
			}
		}
	}
	if over < 5000 || open < 5000 {
		t.Errorf("%d contracts were over, %d were not", over, open)
	}
}

func TestNothingThatComesLaterIsMissing(t *testing.T) {
	random := rand.New(rand.NewSource(20))
	for range 1000 {
		l, spots, s := anyCase(random)
		now := s.second(random)
		early := before(spots, now)
		if got, want := missing(t, l, spots, now), missing(t, l, early, now); !slices.Equal(got, want) {
			t.Fatalf("at %d are missing %v; without the spots from then on %v", now, got, want)
		}
	}
}

// P12.8

// ofCategory returns the contracts of the category.
func ofCategory(l []api.Contract, category int) []api.Contract {
	return slices.DeleteFunc(slices.Clone(l), func(c api.Contract) bool { return c.Category != category })
}

// ofContracts returns the spots of the contracts.
func ofContracts(spots []api.Spot, l []api.Contract) []api.Spot {
	return slices.DeleteFunc(slices.Clone(spots), func(x api.Spot) bool {
		_, ok := contractWith(l, x.Contract)
		return !ok
	})
}

// changeOthers returns l with other contracts in the place of those that are of another category; some of them may be of none.
func changeOthers(random *rand.Rand, l []api.Contract, category int, s scale) []api.Contract {
	var out []api.Contract
	for _, c := range l {
		if c.Category != category {
			other := anyContracts(random, 1, s)[0]
			other.ID, other.Category = c.ID, (category+1+random.Intn(9))%10
			c = other
			if random.Intn(4) == 0 {
				continue
			}
		}
		out = append(out, c)
	}
	return out
}

func TestOtherCategoriesPlayNoPart(t *testing.T) {
	random := rand.New(rand.NewSource(21))
	some := 0
	for range 2000 {
		l, spots, s := anyCase(random)
		for category := range 10 {
			own := ofCategory(l, category)
			if len(own) == 0 || len(own) == len(l) {
				continue
			}
			some++
			want := ofContracts(counted(t, l, spots), own)
			if got := counted(t, own, spots); !slices.Equal(got, want) {
				t.Fatalf("of %v count %v for %v; for all contracts %v", spots, got, own, want)
			}
			if got := counted(t, own, ofContracts(spots, own)); !slices.Equal(got, want) {
				t.Fatalf("of %v count %v for %v without the other spots; want %v", spots, got, own, want)
			}
			other := changeOthers(random, l, category, s)
			if got := ofContracts(counted(t, other, spots), own); !slices.Equal(got, want) {
				t.Fatalf("of %v count %v for %v; for %v %v", spots, want, l, other, got)
			}
			x := api.Spot{Contract: own[random.Intn(len(own))].ID, At: s.second(random)}
			if a, b := reason(t, l, spots, x), reason(t, other, spots, x); a != b {
				t.Fatalf("the reason of %v is %d for %v; for %v %d", x, a, l, other, b)
			}
		}
	}
	if some < 2000 {
		t.Errorf("%d categories were tried", some)
	}
}
