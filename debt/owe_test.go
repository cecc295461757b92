package debt_test

import (
	"math/rand"
	"slices"
	"testing"

	"aircheck/api"
	"aircheck/contract"
	"aircheck/debt"
)

// P14.1: Owe

// always is a week with all hours.
var always = api.Week{api.AllHours, api.AllHours, api.AllHours, api.AllHours, api.AllHours, api.AllHours, api.AllHours}

// contractOf returns a contract of which so many spots count between two seconds.
func contractOf(id, count, from, to int) api.Contract {
	return api.Contract{ID: id, Count: count, PerDay: count, Week: always, Window: api.Spell{From: from, To: to}}
}

// four returns four contracts, of which the last one is over later than the others, and spots of three of them.
func four() ([]api.Contract, []api.Spot) {
	l := []api.Contract{contractOf(4, 3, 0, 1000), contractOf(5, 1, 0, 1000), contractOf(9, 2, 0, 1000), contractOf(10, 2, 0, 1001)}
	return l, []api.Spot{{Contract: 4, At: 10}, {Contract: 5, At: 20}, {Contract: 10, At: 30}, {Contract: 4, At: 10}}
}

func TestOweOfExamples(t *testing.T) {
	l, spots := four()
	for _, x := range []struct {
		now, due, id int
		want         [][3]int // IDs, contracts and counts
	}{
		{0, 5000, 7, nil},
		{999, 5000, 7, nil},
		{1000, 5000, 7, [][3]int{{7, 4, 2}, {8, 9, 2}}},
		{1000, 1001, 0, [][3]int{{0, 4, 2}, {1, 9, 2}}},
		{1001, 10000000, 150, [][3]int{{150, 4, 2}, {151, 9, 2}, {152, 10, 1}}},
		{9999999, 10000000, 197, [][3]int{{197, 4, 2}, {198, 9, 2}, {199, 10, 1}}},
	} {
		var want []api.Deed
		for _, y := range x.want {
			want = append(want, api.Deed{Kind: 1, ID: y[0], Contract: y[1], Count: y[2], Due: x.due, At: x.now})
		}
		if got, e := debt.Owe(l, spots, x.now, x.due, x.id); e != api.OK || !slices.Equal(got, want) {
			t.Errorf("Owe at %d, due %d, from the ID %d on: %v, %d; want %v", x.now, x.due, x.id, got, e, want)
		}
		checkOwe(t, l, spots, x.now, x.due, x.id)
	}
}

func TestIDsOfWhatIsOwedAreChecked(t *testing.T) {
	l, spots := four()
	for now, last := range map[int]int{999: 199, 1000: 198, 1001: 197} {
		for _, id := range append([]int{195, 196, 197}, extremes...) {
			checkOwe(t, l, spots, now, 5000, id)
			if id < 0 || id > last {
				refusesOwe(t, l, spots, now, 5000, id)
			} else if _, e := debt.Owe(l, spots, now, 5000, id); e != api.OK {
				t.Errorf("Owe at %d, from the ID %d on: the error %d", now, id, e)
			}
		}
	}
	for _, id := range extremes {
		checkOwe(t, nil, nil, 0, 1, id)
		if !within(id, 0, 199) {
			refusesOwe(t, nil, nil, 0, 1, id)
		}
	}
}

func TestSecondsOfWhatIsOwedAreChecked(t *testing.T) {
	l, spots := four()
	for _, now := range extremes {
		for _, due := range extremes {
			for _, x := range [][]api.Contract{nil, l} {
				checkOwe(t, x, spots, now, due, 7)
				if !within(now, 0, 9999999) || !within(due, now+1, 10000000) {
					refusesOwe(t, x, spots, now, due, 7)
				} else if _, e := debt.Owe(x, spots, now, due, 7); e != api.OK {
					t.Errorf("Owe at %d, due %d: the error %d", now, due, e)
				}
			}
		}
	}
}

func TestContractsAndSpotsOfWhatIsOwedAreChecked(t *testing.T) {
	l, spots := four()
	for _, x := range [][]api.Contract{{l[1], l[0]}, {l[0], l[0]}, {{}}, make([]api.Contract, 13), {contractOf(1, 0, 0, 1000)}, {contractOf(1, 51, 0, 1000)}, {contractOf(100, 1, 0, 1000)}, {contractOf(1, 1, 1000, 1000)}} {
		refusesOwe(t, x, spots, 2000, 5000, 7)
		refusesOwe(t, x, nil, 0, 5000, 7)
	}
	for _, x := range [][]api.Spot{{{At: -1}}, {{At: 10000000}}, {{Contract: -1}}, {{Contract: 100}}, make([]api.Spot, 61)} {
		refusesOwe(t, l, x, 2000, 5000, 7)
		refusesOwe(t, nil, x, 0, 5000, 7)
	}
	checkOwe(t, l, make([]api.Spot, 60), 2000, 5000, 7)
}

func TestMostIsOwed(t *testing.T) {
	var l []api.Contract
	for k := range 12 {
		l = append(l, contractOf(88+k, 50, 0, 10))
	}
	got, e := debt.Owe(l, nil, 10, 11, 188)
	if e != api.OK || len(got) != 12 || got[11] != (api.Deed{Kind: 1, ID: 199, Contract: 99, Count: 50, Due: 11, At: 10}) {
		t.Errorf("%v, %d", got, e)
	}
	refusesOwe(t, l, nil, 10, 11, 189)
	if debts, sums := fold(t, got); len(debts) != 12 || sums != (api.Sums{Owed: 600, Open: 600}) {
		t.Errorf("%v, %v", debts, sums)
	}
}

// anyContracts returns contracts, spots of them and of others, and a second at which often some of the contracts are over.
func anyContracts(random *rand.Rand) ([]api.Contract, []api.Spot, int) {
	from, seconds := 0, []int{20, 100000, 9999999}[random.Intn(3)]
	if random.Intn(2) == 0 {
		from = random.Intn(10000000 - seconds)
	}
	var l []api.Contract
	for id := random.Intn(20); id < 100 && len(l) < 12; id += 1 + random.Intn(15) {
		begin := from + random.Intn(seconds/2)
		c := contractOf(id, 1+random.Intn(8), begin, begin+1+random.Intn(seconds/2))
		c.PerDay, c.Gap, c.Sponsor, c.Category = 1+random.Intn(c.Count), random.Intn(seconds/8), random.Intn(3), random.Intn(4)
		c.Gap = min(c.Gap, 86400)
		l = append(l, c)
	}
	var spots []api.Spot
	for range random.Intn(61) {
		c := l[random.Intn(len(l))]
		x := api.Spot{Contract: c.ID, At: c.Window.From + random.Intn(c.Window.To-c.Window.From)}
		if random.Intn(8) == 0 {
			x = api.Spot{Contract: random.Intn(100), At: from + random.Intn(seconds)}
		}
		spots = append(spots, x)
	}
	return l, spots, min(9999999, from+random.Intn(seconds+seconds/4))
}

func TestAnythingIsOwed(t *testing.T) {
	random := rand.New(rand.NewSource(4))
	some, none, refused := 0, 0, 0
	for range 4000 {
		l, spots, now := anyContracts(random)
		due := now + 1 + random.Intn(10000000-now)
		id := random.Intn(200)
		if random.Intn(4) == 0 {
			id = 190 + random.Intn(10)
		}
		checkOwe(t, l, spots, now, due, id)
		got, e := debt.Owe(l, spots, now, due, id)
		switch {
		case e != api.OK:
			refused++
		case len(got) > 0:
			some++
		default:
			none++
		}
	}
	if some < 1000 || none < 300 || refused < 300 {
		t.Errorf("something was owed in %d cases, nothing in %d, refused were %d", some, none, refused)
	}
}

func TestContractsAndSpotsAreNotChanged(t *testing.T) {
	random := rand.New(rand.NewSource(5))
	for range 500 {
		l, spots, now := anyContracts(random)
		l, spots = append(l, api.Contract{ID: -7}), append(spots, api.Spot{At: -7})
		wantL, wantSpots := slices.Clone(l), slices.Clone(spots)
		got, _ := debt.Owe(l[:len(l)-1], spots[:len(spots)-1], now, 10000000, 0)
		for k := range got[:cap(got)] {
			got[:cap(got)][k] = api.Deed{Kind: -9}
		}
		if !slices.Equal(l, wantL) || !slices.Equal(spots, wantSpots) {
			t.Fatalf("%v and %v became %v and %v", wantL, wantSpots, l, spots)
		}
	}
}

// P14.8

// checkPromises fails unless what counts and what is owed are what each contract that is over promised, and Fold keeps what is owed. It returns how much is owed.
func checkPromises(t *testing.T, l []api.Contract, spots []api.Spot, now, due, id int) int {
	t.Helper()
	counted, e := contract.Counted(l, spots)
	deeds, f := debt.Owe(l, spots, now, due, id)
	if e != api.OK || f != api.OK {
		t.Fatalf("the errors %d and %d of %v and %v at %d", e, f, l, spots, now)
	}
	kept, owed, sum := map[int]int{}, map[int]int{}, 0
	for _, index := range counted {
		kept[spots[index].Contract]++
	}
	for _, d := range deeds {
		if _, twice := owed[d.Contract]; twice {
			t.Fatalf("%v has several deeds of a contract", deeds)
		}
		owed[d.Contract] = d.Count
		sum += d.Count
	}
	for _, c := range l {
		if c.Window.To <= now && kept[c.ID]+owed[c.ID] != c.Count {
			t.Fatalf("of %v at %d count %d, and %d are owed", c, now, kept[c.ID], owed[c.ID])
		}
		if c.Window.To > now && owed[c.ID] != 0 {
			t.Fatalf("%v is not over at %d, but %d are owed", c, now, owed[c.ID])
		}
	}
	debts, sums := fold(t, deeds)
	if sums != (api.Sums{Owed: sum, Open: sum}) || len(debts) != len(deeds) {
		t.Fatalf("of %v there are the debts %v and the sums %v", deeds, debts, sums)
	}
	for k, d := range deeds {
		if debts[k] != (api.Debt{ID: d.ID, Contract: d.Contract, Count: d.Count, Due: due}) {
			t.Fatalf("of %v there are the debts %v", deeds, debts)
		}
	}
	return sum
}

func TestWhatWasPromisedCountsOrIsOwed(t *testing.T) {
	random := rand.New(rand.NewSource(6))
	some := 0
	for range 3000 {
		l, spots, now := anyContracts(random)
		if checkPromises(t, l, spots, now, now+1+random.Intn(10000000-now), random.Intn(188)) > 0 {
			some++
		}
	}
	if some < 1000 {
		t.Errorf("something was owed only in %d cases", some)
	}
	l, spots := four()
	for now, want := range map[int]int{0: 0, 999: 0, 1000: 4, 1001: 5, 9999999: 5} {
		if got := checkPromises(t, l, spots, now, 10000000, 0); got != want {
			t.Errorf("at %d %d are owed; want %d", now, got, want)
		}
	}
}
