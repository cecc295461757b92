package contract_test

import (
	"math"
	"math/rand"
	"slices"
	"testing"

	"aircheck/api"
	"aircheck/contract"
)

// This file has what the tests share: the chapter's words as slow functions, contracts and spots to try, and checks against those words.

// definedAsContracts reports whether l is valid in the words of the chapter.
func definedAsContracts(l []api.Contract) bool {
	if len(l) > 12 {
		return false
	}
	last := -1
	for _, c := range l {
		if c.ID <= last || c.ID > 99 {
			return false
		}
		last = c.ID
		for _, bound := range [][3]int{{c.Sponsor, 0, 11}, {c.Category, 0, 9}, {c.Item, 0, 199}, {c.Count, 1, 50}, {c.PerDay, 1, c.Count}, {c.Gap, 0, 86400}, {c.Price, 0, 1000000}} {
			if bound[0] < bound[1] || bound[0] > bound[2] {
				return false
			}
		}
		for _, hours := range c.Week {
			if hours < 0 || hours > 16777215 {
				return false
			}
		}
		if c.Window.From < 0 || c.Window.To <= c.Window.From || c.Window.To > 10000000 {
			return false
		}
	}
	return true
}

// definedAsSpots reports whether spots is valid in the words of the chapter.
func definedAsSpots(spots []api.Spot) bool {
	if len(spots) > 60 {
		return false
	}
	for _, x := range spots {
		if x.Contract < 0 || x.Contract > 99 || x.At < 0 || x.At > 9999999 {
			return false
		}
	}
	return true
}

// contractWith returns the contract with this ID, and whether there is one.
func contractWith(l []api.Contract, id int) (api.Contract, bool) {
	for _, c := range l {
		if c.ID == id {
			return c, true
		}
	}
	return api.Contract{}, false
}

// definedToHave reports whether the week has the second.
func definedToHave(w api.Week, at int) bool {
	return w[at/86400%7]&(1<<(at/3600%24)) != 0
}

// definedToCompete reports whether two contracts compete.
func definedToCompete(a, b api.Contract) bool {
	return a.Category == b.Category && a.Sponsor != b.Sponsor
}

// definedAsTooNear reports whether spots of two contracts that compete are too near to each other.
func definedAsTooNear(a, b api.Contract, at, other int) bool {
	apart := at - other
	if apart < 0 {
		apart = -apart
	}
	return apart < a.Gap || apart < b.Gap
}

// definedReason returns the reason for which the valid spot x does not count, for those of l that count, which are given.
func definedReason(l []api.Contract, counted []api.Spot, x api.Spot) int {
	c, ok := contractWith(l, x.Contract)
	if !ok {
		return api.NoContract
	}
	if x.At < c.Window.From || x.At >= c.Window.To {
		return api.NoWindow
	}
	if !definedToHave(c.Week, x.At) {
		return api.NoWeek
	}
	all, today, twice, near := 0, 0, false, false
	for _, y := range counted {
		d, _ := contractWith(l, y.Contract)
		if y.Contract == x.Contract {
			twice = twice || y.At == x.At
			all++
			if y.At/86400 == x.At/86400 {
				today++
			}
		} else if definedToCompete(c, d) && definedAsTooNear(c, d, x.At, y.At) {
			near = true
		}
	}
	switch {
	case twice:
		return api.NoTwice
	case all == c.Count:
		return api.NoCount
	case today == c.PerDay:
		return api.NoDay
	case near:
		return api.NoGap
	}
	return 0
}

// definedCounted returns the indices of the valid spots that count for the valid contracts, as they are found: of those that were not looked at, the first one is looked at each time.
func definedCounted(l []api.Contract, spots []api.Spot) []int {
	var out []int
	looked := make([]bool, len(spots))
	for range spots {
		next := -1
		for k, x := range spots {
			if !looked[k] && (next == -1 || x.At < spots[next].At || x.At == spots[next].At && x.Contract < spots[next].Contract) {
				next = k
			}
		}
		looked[next] = true
		if definedReason(l, pick(spots, out), spots[next]) == 0 {
			out = append(out, next)
		}
	}
	return out
}

// pick returns the spots with these indices.
func pick(spots []api.Spot, indices []int) []api.Spot {
	var out []api.Spot
	for _, k := range indices {
		out = append(out, spots[k])
	}
	return out
}

// definedMay returns what May has to return of valid arguments.
func definedMay(l []api.Contract, counted []api.Spot, at int) []int {
	var out []int
	for id := range 100 {
		if definedReason(l, counted, api.Spot{Contract: id, At: at}) == 0 {
			out = append(out, id)
		}
	}
	return out
}

// definedMissing returns what Missing has to return of valid arguments.
func definedMissing(l []api.Contract, counted []api.Spot, now int) []int {
	var out []int
	for _, c := range l {
		rest := c.Count
		for _, x := range counted {
			if x.Contract == c.ID {
				rest--
			}
		}
		if c.Window.To > now {
			rest = 0
		}
		out = append(out, rest)
	}
	return out
}

// always is a week with all hours.
var always = api.Week{api.AllHours, api.AllHours, api.AllHours, api.AllHours, api.AllHours, api.AllHours, api.AllHours}

// two returns the contracts of the chapter's examples.
func two() []api.Contract {
	return []api.Contract{
		{ID: 1, Sponsor: 1, Category: 1, Count: 3, PerDay: 2, Gap: 600, Week: always, Window: api.Spell{From: 0, To: 200000}},
		{ID: 2, Sponsor: 2, Category: 1, Count: 5, PerDay: 5, Gap: 300, Week: always, Window: api.Spell{From: 0, To: 200000}},
	}
}

// spotsOf returns spots from pairs of a contract and a second.
func spotsOf(pairs ...[2]int) []api.Spot {
	var out []api.Spot
	for _, p := range pairs {
		out = append(out, api.Spot{Contract: p[0], At: p[1]})
	}
	return out
}

// numbers returns pointers to the numbers of the contracts.
func numbers(l []api.Contract) []*int {
	var out []*int
	for k := range l {
		c := &l[k]
		out = append(out, &c.ID, &c.Sponsor, &c.Category, &c.Item, &c.Count, &c.PerDay, &c.Gap, &c.Price, &c.Window.From, &c.Window.To)
		for day := range c.Week {
			out = append(out, &c.Week[day])
		}
	}
	return out
}

// extremes are numbers around every bound of contracts, spots and seconds, and far from them.
var extremes = []int{math.MinInt, math.MinInt + 1, -1 << 62, -1 << 32, -1 << 31, -10000000, -86400, -100, -2, -1, 0, 1, 2, 3, 4, 5, 6, 9, 10, 11, 12, 13, 49, 50, 51, 98, 99, 100, 101, 199, 200, 201, 86399, 86400, 86401, 199999, 200000, 200001, 999999, 1000000, 1000001, 9999998, 9999999, 10000000, 10000001, 16777214, 16777215, 16777216, 1 << 31, 1<<31 + 1, 1 << 32, 1<<32 + 1, 1<<62 - 1, 1 << 62, math.MaxInt - 1, math.MaxInt}

// scale is seconds to try, and the greatest gap that matters among them.
type scale struct {
	from, step, count, gap int
}

// second returns one of the seconds.
func (s scale) second(random *rand.Rand) int {
	return s.from + s.step*random.Intn(s.count)
}

// scales are a few seconds around a midnight, minutes of a day, hours of a week and more, the whole time, and its end.
func scales() []scale {
	return []scale{
		{3*86400 - 10, 1, 20, 8},
		{86400, 60, 1440, 1200},
		{0, 1800, 1000, 20000},
		{0, 1, 10000000, 86400},
		{10000000 - 200000, 1000, 200, 86400},
		{10000000 - 12, 1, 12, 5},
	}
}

// anyWeek returns a week that often has all hours.
func anyWeek(random *rand.Rand) api.Week {
	w := always
	if random.Intn(3) == 0 {
		for day := range w {
			w[day] = random.Intn(1 << 24)
		}
	}
	return w
}

// anyContracts returns this many valid contracts with few sponsors and categories, whose windows are around the seconds of the scale.
func anyContracts(random *rand.Rand, count int, s scale) []api.Contract {
	var out []api.Contract
	ids := random.Perm(100)[:count]
	slices.Sort(ids)
	sponsors, categories := 1+random.Intn(12), 1+random.Intn([]int{1, 3, 10}[random.Intn(3)])
	most := []int{3, 8, 50}[random.Intn(3)]
	for _, id := range ids {
		c := api.Contract{
			ID: id, Sponsor: random.Intn(sponsors), Category: random.Intn(categories), Item: random.Intn(200),
			Count: 1 + random.Intn(most), Gap: random.Intn(s.gap + 1), Price: random.Intn(1000001),
			Week: anyWeek(random), Window: api.Spell{From: 0, To: 10000000},
		}
		c.PerDay = 1 + random.Intn(c.Count)
		if random.Intn(3) == 0 {
			c.Gap = 0
		}
		if a, b := s.second(random), s.second(random); a != b && random.Intn(2) == 0 {
			c.Window = api.Spell{From: min(a, b), To: max(a, b)}
		}
		out = append(out, c)
	}
	return out
}

// anySpot returns a valid spot, mostly of one of the contracts.
func anySpot(random *rand.Rand, l []api.Contract, s scale) api.Spot {
	x := api.Spot{Contract: random.Intn(100), At: s.second(random)}
	if len(l) > 0 && random.Intn(15) > 0 {
		x.Contract = l[random.Intn(len(l))].ID
	}
	return x
}

// anySpots returns this many valid spots, of which some may be there twice.
func anySpots(random *rand.Rand, l []api.Contract, s scale, count int) []api.Spot {
	var out []api.Spot
	for range count {
		x := anySpot(random, l, s)
		if len(out) > 0 && random.Intn(12) == 0 {
			x = out[random.Intn(len(out))]
		}
		out = append(out, x)
	}
	return out
}

// anyCase returns valid contracts and spots, and the scale of their seconds.
func anyCase(random *rand.Rand) ([]api.Contract, []api.Spot, scale) {
	s := scales()[random.Intn(len(scales()))]
	l := anyContracts(random, random.Intn(13), s)
	return l, anySpots(random, l, s, random.Intn(61)), s
}

// counted returns the spots that count, as Counted finds them.
func counted(t testing.TB, l []api.Contract, spots []api.Spot) []api.Spot {
	t.Helper()
	indices, e := contract.Counted(l, spots)
	if e != api.OK {
		t.Fatalf("Counted(%v, %v): the error %d", l, spots, e)
	}
	return pick(spots, indices)
}

// reason returns what Reason returns of valid arguments.
func reason(t testing.TB, l []api.Contract, spots []api.Spot, x api.Spot) int {
	t.Helper()
	n, e := contract.Reason(l, spots, x)
	if e != api.OK {
		t.Fatalf("Reason(%v, %v, %v): the error %d", l, spots, x, e)
	}
	return n
}

// missing returns what Missing returns of valid arguments.
func missing(t testing.TB, l []api.Contract, spots []api.Spot, now int) []int {
	t.Helper()
	out, e := contract.Missing(l, spots, now)
	if e != api.OK {
		t.Fatalf("Missing(%v, %v, %d): the error %d", l, spots, now, e)
	}
	return out
}

// checkCounted fails unless Counted returns what the chapter says, whatever the arguments are.
func checkCounted(t testing.TB, l []api.Contract, spots []api.Spot) {
	t.Helper()
	var want []int
	err := api.ErrContract
	if definedAsContracts(l) && definedAsSpots(spots) {
		want, err = definedCounted(l, spots), api.OK
	}
	if got, e := contract.Counted(l, spots); !slices.Equal(got, want) || e != err {
		t.Fatalf("Counted(%v, %v) = %v, %d; want %v, %d", l, spots, got, e, want, err)
	}
}

// checkReason fails unless Reason returns what the chapter says, whatever the arguments are. It returns what Reason returns.
func checkReason(t testing.TB, l []api.Contract, spots []api.Spot, x api.Spot) int {
	t.Helper()
	want, err := 0, api.ErrContract
	if definedAsContracts(l) && definedAsSpots(spots) && definedAsSpots([]api.Spot{x}) {
		want, err = definedReason(l, pick(spots, definedCounted(l, spots)), x), api.OK
	}
	got, e := contract.Reason(l, spots, x)
	if got != want || e != err {
		t.Fatalf("Reason(%v, %v, %v) = %d, %d; want %d, %d", l, spots, x, got, e, want, err)
	}
	return got
}

// checkMay fails unless May returns what the chapter says, whatever the arguments are.
func checkMay(t testing.TB, l []api.Contract, spots []api.Spot, at int) {
	t.Helper()
	var want []int
	err := api.ErrContract
	if definedAsContracts(l) && definedAsSpots(spots) && at >= 0 && at <= 9999999 {
		want, err = definedMay(l, pick(spots, definedCounted(l, spots)), at), api.OK
	}
	if got, e := contract.May(l, spots, at); !slices.Equal(got, want) || e != err {
		t.Fatalf("May(%v, %v, %d) = %v, %d; want %v, %d", l, spots, at, got, e, want, err)
	}
}

// checkMissing fails unless Missing returns what the chapter says, whatever the arguments are.
func checkMissing(t testing.TB, l []api.Contract, spots []api.Spot, now int) {
	t.Helper()
	var want []int
	err := api.ErrContract
	if definedAsContracts(l) && definedAsSpots(spots) && now >= 0 && now <= 10000000 {
		want, err = definedMissing(l, pick(spots, definedCounted(l, spots)), now), api.OK
	}
	if got, e := contract.Missing(l, spots, now); !slices.Equal(got, want) || e != err {
		t.Fatalf("Missing(%v, %v, %d) = %v, %d; want %v, %d", l, spots, now, got, e, want, err)
	}
}

// checkCase fails unless all functions do what the chapter says for these arguments, whatever they are.
func checkCase(t testing.TB, l []api.Contract, spots []api.Spot, x api.Spot) {
	t.Helper()
	if contract.Valid(l) != definedAsContracts(l) || contract.ValidSpots(spots) != definedAsSpots(spots) {
		t.Fatalf("Valid(%v) = %v, ValidSpots(%v) = %v", l, contract.Valid(l), spots, contract.ValidSpots(spots))
	}
	checkCounted(t, l, spots)
	checkReason(t, l, spots, x)
	checkMay(t, l, spots, x.At)
	checkMissing(t, l, spots, x.At)
}

// refuses fails unless all functions that return an error refuse l or spots, of which one is not valid.
func refuses(t testing.TB, l []api.Contract, spots []api.Spot) {
	t.Helper()
	for _, at := range []int{0, 10, 9999999} {
		refusesMay(t, l, spots, at)
		refusesMissing(t, l, spots, at)
		for _, id := range []int{0, 1, 2, 99} {
			refusesReason(t, l, spots, api.Spot{Contract: id, At: at})
		}
	}
	if got, e := contract.Counted(l, spots); len(got) != 0 || e != api.ErrContract {
		t.Errorf("Counted(%v, %v) = %v, %d", l, spots, got, e)
	}
}

// refusesReason fails unless Reason refuses its arguments.
func refusesReason(t testing.TB, l []api.Contract, spots []api.Spot, x api.Spot) {
	t.Helper()
	if got, e := contract.Reason(l, spots, x); got != 0 || e != api.ErrContract {
		t.Errorf("Reason(%v, %v, %v) = %d, %d", l, spots, x, got, e)
	}
}

// refusesMay fails unless May refuses its arguments.
func refusesMay(t testing.TB, l []api.Contract, spots []api.Spot, at int) {
	t.Helper()
	if got, e := contract.May(l, spots, at); len(got) != 0 || e != api.ErrContract {
		t.Errorf("May(%v, %v, %d) = %v, %d", l, spots, at, got, e)
	}
}

// refusesMissing fails unless Missing refuses its arguments.
func refusesMissing(t testing.TB, l []api.Contract, spots []api.Spot, now int) {
	t.Helper()
	if got, e := contract.Missing(l, spots, now); len(got) != 0 || e != api.ErrContract {
		t.Errorf("Missing(%v, %v, %d) = %v, %d", l, spots, now, got, e)
	}
}

// refusesContracts fails unless all functions refuse l, which is not valid, whatever the spots are.
func refusesContracts(t testing.TB, l []api.Contract) {
	t.Helper()
	if contract.Valid(l) {
		t.Errorf("%v is valid", l)
	}
	refuses(t, l, nil)
	refuses(t, l, spotsOf([2]int{1, 10}, [2]int{2, 1000}))
	refuses(t, l, spotsOf([2]int{100, 10}))
}

// refusesSpots fails unless all functions refuse spots, which is not valid, whatever the contracts are.
func refusesSpots(t testing.TB, spots []api.Spot) {
	t.Helper()
	if contract.ValidSpots(spots) {
		t.Errorf("%v is valid", spots)
	}
	refuses(t, nil, spots)
	refuses(t, two(), spots)
	refuses(t, append(two(), two()...), spots)
}
