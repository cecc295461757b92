package contract_test

import (
	"math/rand"
	"slices"
	"testing"

	"aircheck/api"
	"aircheck/contract"
)

// P12.1: Valid

// full returns as many contracts as there may be, with the greatest numbers.
func full() []api.Contract {
	var out []api.Contract
	for k := range 12 {
		out = append(out, api.Contract{
			ID: 88 + k, Sponsor: k, Category: 9, Item: 199, Count: 50, PerDay: 50, Gap: 86400, Price: 1000000,
			Week: always, Window: api.Spell{From: 9999999, To: 10000000},
		})
	}
	return out
}

func TestValidContracts(t *testing.T) {
	least := api.Contract{Count: 1, PerDay: 1, Window: api.Spell{From: 0, To: 1}}
	for _, l := range [][]api.Contract{nil, {}, two(), two()[1:], full(), {least}, append([]api.Contract{least}, full()[:11]...)} {
		if !contract.Valid(l) {
			t.Errorf("%v is not valid", l)
		}
		checkCase(t, l, nil, api.Spot{})
	}
}

func TestContractsAreLimited(t *testing.T) {
	for count := range 30 {
		l := make([]api.Contract, count)
		for k := range l {
			l[k] = two()[0]
			l[k].ID = 3 * k
		}
		if count > 12 {
			refusesContracts(t, l)
		} else if !contract.Valid(l) {
			t.Errorf("%d contracts are not valid", count)
		}
	}
	refusesContracts(t, make([]api.Contract, 100000))
	refusesContracts(t, make([]api.Contract, 1))
}

func TestIDsOfContractsAscend(t *testing.T) {
	for a := range 4 {
		for b := range 4 {
			for c := range 4 {
				l := append(two(), two()[0])
				l[0].ID, l[1].ID, l[2].ID = a, b, c
				if a >= b || b >= c {
					refusesContracts(t, l)
				} else if !contract.Valid(l) {
					t.Errorf("%d, %d, %d are not valid", a, b, c)
				}
			}
		}
	}
}

func TestEveryNumberOfAContractIsChecked(t *testing.T) {
	have := spotsOf([2]int{1, 10}, [2]int{2, 700}, [2]int{2, 5}, [2]int{1, 90000})
	for field := range numbers(two()) {
		for _, n := range extremes {
			l := two()
			*numbers(l)[field] = n
			if !definedAsContracts(l) {
				refusesContracts(t, l)
			}
			checkCase(t, l, have, api.Spot{Contract: 1, At: 2000})
			checkCase(t, l, have, api.Spot{Contract: 2, At: 199999})
		}
	}
}

func TestEveryTwoNumbersOfAContractAreChecked(t *testing.T) {
	for x := range numbers(two()[:1]) {
		for y := range x {
			for _, n := range extremes {
				for _, m := range extremes {
					l := two()[:1]
					*numbers(l)[x], *numbers(l)[y] = n, m
					if contract.Valid(l) != definedAsContracts(l) {
						t.Fatalf("Valid(%v) = %v", l, contract.Valid(l))
					}
				}
			}
		}
	}
}

func TestTheLastContractIsChecked(t *testing.T) {
	l := full()
	l[11].PerDay = 51
	refusesContracts(t, l)
	l = full()
	l[11].Week[6] = 1 << 24
	refusesContracts(t, l)
	l = full()
	l[11].ID = 98
	refusesContracts(t, l)
}

// P12.1: ValidSpots

func TestSpotsAreLimited(t *testing.T) {
	var spots []api.Spot
	for n := range 70 {
		if n > 60 {
			refusesSpots(t, spots)
		} else {
			checkCase(t, two(), spots, api.Spot{Contract: 1, At: 90000})
			if !contract.ValidSpots(spots) {
				t.Errorf("%d spots are not valid", n)
			}
		}
		spots = append(spots, api.Spot{Contract: n % 4, At: 1000 * n})
	}
	refusesSpots(t, make([]api.Spot, 100000))
}

func TestEveryNumberOfASpotIsChecked(t *testing.T) {
	for place := range 4 {
		for field := range 2 {
			for _, n := range extremes {
				spots := spotsOf([2]int{1, 10}, [2]int{2, 700}, [2]int{99, 5}, [2]int{0, 9999999})
				*[]*int{&spots[place].Contract, &spots[place].At}[field] = n
				if !definedAsSpots(spots) {
					refusesSpots(t, spots)
				}
				checkCase(t, two(), spots, api.Spot{Contract: 1, At: 2000})
			}
		}
	}
}

// P12.1: seconds and the further spot

func TestTheFurtherSpotIsChecked(t *testing.T) {
	for _, n := range extremes {
		for _, m := range extremes {
			x := api.Spot{Contract: n, At: m}
			for _, have := range [][]api.Spot{nil, spotsOf([2]int{1, 10}, [2]int{2, 700})} {
				checkReason(t, two(), have, x)
				if !definedAsSpots([]api.Spot{x}) {
					refusesReason(t, two(), have, x)
					refusesReason(t, nil, have, x)
				}
			}
		}
	}
}

func TestTheFurtherSpotMayBeOneMoreThanSixty(t *testing.T) {
	var have []api.Spot
	for k := range 60 {
		have = append(have, api.Spot{Contract: 2, At: k})
	}
	for _, x := range spotsOf([2]int{1, 604}, [2]int{1, 603}, [2]int{2, 60}, [2]int{1, 9999999}) {
		checkReason(t, two(), have, x)
	}
	if got := reason(t, two(), have, api.Spot{Contract: 1, At: 604}); got != 0 {
		t.Errorf("the reason %d", got)
	}
}

func TestSecondsAreChecked(t *testing.T) {
	have := spotsOf([2]int{1, 10}, [2]int{2, 700})
	late := two()
	late[1].Window.To = 10000000
	for _, n := range extremes {
		for _, l := range [][]api.Contract{nil, two(), late} {
			checkMay(t, l, have, n)
			checkMissing(t, l, have, n)
			if n < 0 || n > 9999999 {
				refusesMay(t, l, have, n)
			}
			if n < 0 || n > 10000000 {
				refusesMissing(t, l, have, n)
			}
		}
	}
}

// P12.1: Counted

func TestCountedOfExamples(t *testing.T) {
	for _, x := range []struct {
		spots []api.Spot
		want  []int
	}{
		{spotsOf([2]int{1, 1000}, [2]int{2, 1500}, [2]int{2, 1600}), []int{0, 2}},
		{spotsOf([2]int{1, 0}, [2]int{1, 10}, [2]int{1, 20}, [2]int{1, 86400}, [2]int{1, 86410}), []int{0, 1, 3}},
		{spotsOf([2]int{1, 10}, [2]int{1, 10}), []int{0}},
		{spotsOf([2]int{2, 1600}, [2]int{1, 1000}), []int{1, 0}},
		{nil, nil},
		{spotsOf([2]int{3, 10}), nil},
		{spotsOf([2]int{2, 10}, [2]int{1, 10}), []int{1}},
		{spotsOf([2]int{1, 200000}, [2]int{1, 199999}, [2]int{1, 0}), []int{2, 1}},
		{spotsOf([2]int{2, 20}, [2]int{2, 10}, [2]int{2, 20}, [2]int{2, 10}), []int{1, 0}},
	} {
		if got, e := contract.Counted(two(), x.spots); !slices.Equal(got, x.want) || e != api.OK {
			t.Errorf("Counted(%v) = %v, %d; want %v", x.spots, got, e, x.want)
		}
		checkCounted(t, two(), x.spots)
	}
}

func TestASpotThatDoesNotCountIsInNobodysWay(t *testing.T) {
	for _, x := range []struct {
		spots []api.Spot
		want  []int
	}{
		// too near to the first one, and not in the way of the third one
		{spotsOf([2]int{1, 1000}, [2]int{2, 1500}, [2]int{1, 2000}), []int{0, 2}},
		// the third one of its day, and not the last one of Count
		{spotsOf([2]int{1, 0}, [2]int{1, 10}, [2]int{1, 20}, [2]int{2, 610}, [2]int{1, 90000}), []int{0, 1, 3, 4}},
		// no contract, and outside of the window
		{spotsOf([2]int{5, 10}, [2]int{2, 11}, [2]int{1, 200000}, [2]int{1, 300000}, [2]int{1, 86400}), []int{1, 4}},
	} {
		if got, e := contract.Counted(two(), x.spots); !slices.Equal(got, x.want) || e != api.OK {
			t.Errorf("Counted(%v) = %v, %d; want %v", x.spots, got, e, x.want)
		}
	}
}

func TestOfEqualSpotsTheFirstOneCounts(t *testing.T) {
	l := two()
	l[0].Count, l[0].PerDay = 50, 50
	// many equal spots, so that a sort that is not stable would exchange some
	for count := 1; count <= 58; count++ {
		spots := slices.Concat(spotsOf([2]int{2, 2000}), slices.Repeat(spotsOf([2]int{1, 777}), count), spotsOf([2]int{1, 776}))
		if got, e := contract.Counted(l, spots); !slices.Equal(got, []int{count + 1, 1, 0}) || e != api.OK {
			t.Errorf("with %d equal spots %v count (%d)", count, got, e)
		}
	}
}

// P12.1: Reason

func TestReasonsOfExamples(t *testing.T) {
	l := append(two(), api.Contract{ID: 7, Sponsor: 1, Category: 1, Count: 1, PerDay: 1, Week: api.Week{960}, Window: api.Spell{From: 20000, To: 700000}})
	have := spotsOf([2]int{1, 0}, [2]int{1, 10}, [2]int{2, 50000}, [2]int{7, 25000}, [2]int{1, 20})
	for _, x := range []struct {
		id, at, want int
	}{
		{9, 5, api.NoContract}, {0, 0, api.NoContract}, {99, 9999999, api.NoContract},
		{7, 19999, api.NoWindow}, {7, 700000, api.NoWindow}, {1, 200000, api.NoWindow}, {2, 9999999, api.NoWindow},
		{7, 20000, api.NoWeek}, {7, 21599, api.NoWeek}, {7, 36000, api.NoWeek}, {7, 604799, api.NoWeek}, {7, 699999, api.NoWeek},
		{7, 25000, api.NoTwice}, {1, 10, api.NoTwice}, {2, 50000, api.NoTwice},
		{7, 21600, api.NoCount}, {7, 35999, api.NoCount}, {7, 626400, api.NoCount},
		{1, 20, api.NoDay}, {1, 86399, api.NoDay}, {1, 86400, 0},
		{2, 0, api.NoGap}, {2, 609, api.NoGap}, {2, 610, 0}, {2, 24701, api.NoGap}, {2, 25299, api.NoGap}, {2, 24700, 0}, {2, 25300, 0},
	} {
		s := api.Spot{Contract: x.id, At: x.at}
		if got := checkReason(t, l, have, s); got != x.want {
			t.Errorf("Reason of %v = %d; want %d", s, got, x.want)
		}
	}
}

func TestTheFirstReasonIsReturned(t *testing.T) {
	l := []api.Contract{
		{ID: 3, Sponsor: 1, Category: 4, Count: 1, PerDay: 1, Gap: 0, Week: api.Week{1}, Window: api.Spell{From: 0, To: 1500}},
		{ID: 5, Sponsor: 2, Category: 4, Count: 2, PerDay: 2, Gap: 400, Week: always, Window: api.Spell{From: 0, To: 10000000}},
	}
	have := spotsOf([2]int{3, 1000}, [2]int{5, 1400})
	x := api.Spot{Contract: 3, At: 1500}
	step := func(want int, change func()) {
		t.Helper()
		if got := checkReason(t, l, have, x); got != want {
			t.Errorf("Reason(%v, %v, %v) = %d; want %d", l, have, x, got, want)
		}
		change()
	}
	x.Contract = 4
	step(api.NoContract, func() { x.Contract = 3 })
	l[0].Week = api.Week{}
	l[0].Week[1] = 1
	have[0].At = 86400
	l[0].Window.To = 90000
	l[0].Window.From = 1501
	step(api.NoWindow, func() { l[0].Window.From = 0 })
	step(api.NoWeek, func() { l[0].Week, have[0].At = always, 1000 })
	step(api.NoCount, func() { l[0].Count = 2 })
	step(api.NoDay, func() { l[0].PerDay = 2 })
	step(api.NoGap, func() { have[1].At = 1900 })
	step(0, func() { have[0].At, l[0].Count, l[0].PerDay = 1500, 1, 1 })
	step(api.NoTwice, func() {})
}

func TestContractsCompeteInACategory(t *testing.T) {
	for bits := range 4 {
		l := two()
		l[1].Sponsor, l[1].Category = 1+bits&1, 1+bits>>1
		want := 0
		if bits == 1 {
			want = api.NoGap
		}
		if got := checkReason(t, l, spotsOf([2]int{1, 100}), api.Spot{Contract: 2, At: 110}); got != want {
			t.Errorf("Reason for %v = %d; want %d", l, got, want)
		}
	}
}

func TestTheGreaterGapIsKeptToTheSecond(t *testing.T) {
	gaps := []int{0, 1, 2, 599, 600, 86399, 86400}
	for _, a := range gaps {
		for _, b := range gaps {
			for _, apart := range append(gaps, -1, -2, 3, -599, 601, -601, 86401, -86400, -86401) {
				l := two()
				l[0].Gap, l[1].Gap, l[0].Window.To, l[1].Window.To = a, b, 10000000, 10000000
				want := api.NoGap
				if max(apart, -apart) >= max(a, b) {
					want = 0
				}
				if got := checkReason(t, l, spotsOf([2]int{1, 5000000}), api.Spot{Contract: 2, At: 5000000 + apart}); got != want {
					t.Errorf("with the gaps %d and %d, %d seconds apart: the reason %d; want %d", a, b, apart, got, want)
				}
			}
		}
	}
}

func TestDaysBeginAtMidnight(t *testing.T) {
	l := two()[:1]
	l[0].PerDay, l[0].Window.To = 1, 10000000
	for _, day := range []int{0, 1, 5, 6, 7, 100, 115} {
		have := []api.Spot{{Contract: 1, At: 86400*day + 40000}}
		for _, x := range []struct{ at, want int }{{-1, 0}, {0, api.NoDay}, {1, api.NoDay}, {86399, api.NoDay}, {86400, 0}, {604800 + 40000, 0}} {
			at := 86400*day + x.at
			if at < 0 || at > 9999999 {
				continue
			}
			if got := checkReason(t, l, have, api.Spot{Contract: 1, At: at}); got != x.want {
				t.Errorf("at %d, with %v: the reason %d; want %d", at, have, got, x.want)
			}
		}
	}
}

func TestCountsAreKept(t *testing.T) {
	for _, count := range []int{1, 2, 7, 49, 50} {
		for _, perDay := range []int{1, 2, 6, 7, 49, 50} {
			if perDay > count {
				continue
			}
			l := two()
			l[0].Count, l[0].PerDay, l[0].Window.To = count, perDay, 10000000
			var spots []api.Spot
			for k := range 60 {
				spots = append(spots, api.Spot{Contract: 1, At: 86400*(k/20) + k})
			}
			want := 0
			for range 3 {
				want = min(count, want+min(20, perDay))
			}
			if got := counted(t, l, spots); len(got) != want {
				t.Errorf("%d spots count of %d, %d on a day; want %d", len(got), count, perDay, want)
			}
			checkCase(t, l, spots, api.Spot{Contract: 1, At: 86400 * 3})
			checkCase(t, l, spots, api.Spot{Contract: 1, At: 86400*2 + 60})
		}
	}
}

// P12.1: May and Missing

func TestMayOfExamples(t *testing.T) {
	l := append(two(), api.Contract{ID: 7, Sponsor: 3, Category: 2, Count: 1, PerDay: 1, Week: always, Window: api.Spell{From: 20000, To: 700000}})
	have := spotsOf([2]int{1, 0}, [2]int{1, 10}, [2]int{2, 50000})
	for _, x := range []struct {
		at   int
		want []int
	}{{5, nil}, {10, nil}, {609, nil}, {610, []int{2}}, {20000, []int{2, 7}}, {50000, []int{7}}, {86400, []int{1, 2, 7}}, {199999, []int{1, 2, 7}}, {200000, []int{7}}, {700000, nil}, {9999999, nil}} {
		if got, e := contract.May(l, have, x.at); !slices.Equal(got, x.want) || e != api.OK {
			t.Errorf("May at %d: %v, %d; want %v", x.at, got, e, x.want)
		}
		checkMay(t, l, have, x.at)
	}
}

func TestMissingOfExamples(t *testing.T) {
	have := spotsOf([2]int{2, 1600}, [2]int{1, 1000})
	for _, x := range []struct {
		now  int
		want []int
	}{{0, []int{0, 0}}, {199999, []int{0, 0}}, {200000, []int{2, 4}}, {9999999, []int{2, 4}}, {10000000, []int{2, 4}}} {
		if got := missing(t, two(), have, x.now); !slices.Equal(got, x.want) {
			t.Errorf("at %d are missing %v; want %v", x.now, got, x.want)
		}
	}
	if got := missing(t, two(), append(have, spotsOf([2]int{1, 1700}, [2]int{1, 90000}, [2]int{1, 99000}, [2]int{2, 2300})...), 200000); !slices.Equal(got, []int{0, 3}) {
		t.Errorf("%v are missing", got)
	}
	if got := missing(t, nil, have, 200000); len(got) != 0 {
		t.Errorf("without contracts %v are missing", got)
	}
	if got := missing(t, two(), nil, 200000); !slices.Equal(got, []int{3, 5}) {
		t.Errorf("without spots %v are missing", got)
	}
}

func TestContractsAreOverAtTheirOwnSeconds(t *testing.T) {
	l := two()
	l[0].Window.To = 10000000
	for now, want := range map[int][]int{199999: {0, 0}, 200000: {0, 5}, 9999999: {0, 5}, 10000000: {3, 5}} {
		if got := missing(t, l, nil, now); !slices.Equal(got, want) {
			t.Errorf("at %d are missing %v; want %v", now, got, want)
		}
	}
}

// P12.1: all functions

// lists returns the lists of at most this many of the spots.
func lists(spots []api.Spot, most int) [][]api.Spot {
	out := [][]api.Spot{nil}
	for k := 0; k < len(out); k++ {
		if len(out[k]) < most {
			for _, x := range spots {
				out = append(out, append(slices.Clone(out[k]), x))
			}
		}
	}
	return out
}

// smallContracts returns lists of three contracts, of which the second one competes with the others, with small bounds.
func smallContracts() [][]api.Contract {
	var out [][]api.Contract
	for _, counts := range [][2]int{{1, 1}, {2, 1}, {2, 2}} {
		for a := range 4 {
			for b := range 4 {
				out = append(out, []api.Contract{
					{ID: 1, Sponsor: 1, Count: counts[0], PerDay: counts[1], Gap: a, Week: always, Window: api.Spell{From: 86398, To: 86402}},
					{ID: 2, Sponsor: 2, Count: 2, PerDay: 1, Gap: b, Week: api.Week{api.AllHours, 1 << 1}, Window: api.Spell{From: 0, To: 86401}},
					{ID: 4, Sponsor: 1, Count: 2, PerDay: 2, Gap: 1, Week: api.Week{1 << 23, 1 << 0}, Window: api.Spell{From: 86399, To: 100000}},
				})
			}
		}
	}
	return out
}

func TestAllSmallLists(t *testing.T) {
	var spots []api.Spot
	for _, id := range []int{1, 2, 4} {
		for _, at := range []int{86398, 86399, 86400, 86402} {
			spots = append(spots, api.Spot{Contract: id, At: at})
		}
	}
	all := lists(spots, 3)
	for _, l := range smallContracts() {
		for k, have := range all {
			checkCase(t, l, have, spots[k%len(spots)])
			checkMissing(t, l, have, 86401+k%2)
		}
	}
}

func TestAnyContractsAndSpots(t *testing.T) {
	random := rand.New(rand.NewSource(1))
	reasons := map[int]int{}
	for range 4000 {
		l, spots, s := anyCase(random)
		if !contract.Valid(l) || !contract.ValidSpots(spots) {
			t.Fatalf("%v or %v is not valid", l, spots)
		}
		x := anySpot(random, l, s)
		checkCase(t, l, spots, x)
		for range 3 {
			reasons[checkReason(t, l, spots, anySpot(random, l, s))]++
			if len(spots) > 0 {
				reasons[checkReason(t, l, spots, spots[random.Intn(len(spots))])]++
			}
		}
		checkMissing(t, l, spots, 10000000)
	}
	for n := range 8 {
		if reasons[n] < 500 {
			t.Errorf("the reason %d was returned %d times", n, reasons[n])
		}
	}
}

func TestArgumentsAreNotChanged(t *testing.T) {
	random := rand.New(rand.NewSource(2))
	for range 500 {
		l, spots, s := anyCase(random)
		allContracts := append(slices.Clone(l), api.Contract{ID: -7}, api.Contract{ID: -8})
		allSpots := append(slices.Clone(spots), api.Spot{At: -7}, api.Spot{At: -8})
		wantContracts, wantSpots := slices.Clone(allContracts), slices.Clone(allSpots)
		l, spots = allContracts[:len(l)], allSpots[:len(spots)]
		checkCase(t, l, spots, anySpot(random, l, s))
		if !slices.Equal(allContracts, wantContracts) || !slices.Equal(allSpots, wantSpots) {
			t.Fatalf("%v became %v, or %v became %v", wantContracts, allContracts, wantSpots, allSpots)
		}
	}
}

// spoil overwrites l and its spare capacity.
func spoil(l []int) {
	l = l[:cap(l)]
	for k := range l {
		l[k] = -9
	}
}

func TestResultsAreNewMemory(t *testing.T) {
	random := rand.New(rand.NewSource(3))
	for range 300 {
		l, spots, s := anyCase(random)
		x := anySpot(random, l, s)
		wantContracts, wantSpots := slices.Clone(l), slices.Clone(spots)
		first, _ := contract.Counted(l, spots)
		may, _ := contract.May(l, spots, x.At)
		short, _ := contract.Missing(l, spots, x.At)
		spoil(first)
		spoil(may)
		spoil(short)
		checkCase(t, l, spots, x)
		if !slices.Equal(l, wantContracts) || !slices.Equal(spots, wantSpots) {
			t.Fatalf("a result shares memory with an argument: %v, %v", wantContracts, wantSpots)
		}
	}
}

func FuzzContract(f *testing.F) {
	f.Add(1, 1, 1, 3, 2, 600, 960, 0, 200000, 2, 2, 1, 5, 5, 300, 0, 200000, 1, 1000, 2, 1500, 2, 1600)
	f.Add(0, 11, 9, 50, 50, 86400, 16777215, 9999998, 10000000, 99, 0, 9, 1, 1, 0, 9999999, 10000000, 0, 9999998, 99, 9999999, 99, 9999998)
	f.Add(-1, 0, 0, 0, 0, 0, -1, 0, 0, 0, 0, 0, 0, 0, 0, 0, 0, 0, -1, 100, 0, -1, -1)
	f.Fuzz(func(t *testing.T, id1, sponsor1, category1, count1, perDay1, gap1, hours, from1, to1, id2, sponsor2, category2, count2, perDay2, gap2, from2, to2, spot1, at1, spot2, at2, spot3, at3 int) {
		l := []api.Contract{
			{ID: id1, Sponsor: sponsor1, Category: category1, Count: count1, PerDay: perDay1, Gap: gap1, Week: api.Week{hours, api.AllHours}, Window: api.Spell{From: from1, To: to1}},
			{ID: id2, Sponsor: sponsor2, Category: category2, Count: count2, PerDay: perDay2, Gap: gap2, Week: always, Window: api.Spell{From: from2, To: to2}},
		}
		spots := spotsOf([2]int{spot1, at1}, [2]int{spot2, at2}, [2]int{spot3, at3})
		for k, x := range spots {
			checkCase(t, l, spots[:k], x)
			checkCase(t, l, spots, x)
		}
		checkMissing(t, l, spots, to1)
		checkMissing(t, l, spots, to2)
		if !definedAsContracts(l) {
			refusesContracts(t, l)
		}
		if !definedAsSpots(spots) {
			refusesSpots(t, spots)
		}
	})
}
