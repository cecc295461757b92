package debt_test

import (
	"math/rand"
	"slices"
	"testing"

	"aircheck/api"
	"aircheck/debt"
)

// P14.1: Fold

func TestFoldOfExamples(t *testing.T) {
	for _, x := range []struct {
		count int
		debts []api.Debt
		sums  api.Sums
	}{
		{0, nil, api.Sums{}},
		{1, []api.Debt{{ID: 1, Contract: 3, Count: 5, Due: 100}}, api.Sums{Owed: 5, Open: 5}},
		{2, []api.Debt{{ID: 1, Contract: 3, Count: 3, Due: 100}}, api.Sums{Owed: 5, Served: 2, Open: 3}},
		{3, []api.Debt{{ID: 1, Contract: 3, Count: 2, Due: 100}, {ID: 2, Contract: 4, Count: 1, Due: 100}}, api.Sums{Owed: 5, Served: 2, Moved: 1, Open: 3}},
		{4, []api.Debt{{ID: 1, Contract: 3, Count: 1, Due: 100}, {ID: 2, Contract: 4, Count: 1, Due: 100}}, api.Sums{Owed: 5, Served: 2, Moved: 1, Paid: 1, Open: 2}},
	} {
		if debts, sums := fold(t, example()[:x.count]); !slices.Equal(debts, x.debts) || sums != x.sums {
			t.Errorf("after %d deeds: %v, %v", x.count, debts, sums)
		}
	}
	l := example()
	l[1].At = 100
	refusesDeeds(t, l, 1)
	refusesDeeds(t, l[:2], 1)
}

func TestDebtsAscendByID(t *testing.T) {
	l := []api.Deed{
		{Kind: api.DOwe, ID: 199, Contract: 1, Count: 3, Due: 10},
		{Kind: api.DOwe, ID: 7, Contract: 2, Count: 1, Due: 20},
		{Kind: api.DMove, ID: 199, To: 0, Contract: 5, Count: 2, At: 5},
		{Kind: api.DMove, ID: 0, To: 100, Contract: 1, Count: 1, At: 5},
	}
	want := []api.Debt{{ID: 0, Contract: 5, Count: 1, Due: 10}, {ID: 7, Contract: 2, Count: 1, Due: 20}, {ID: 100, Contract: 1, Count: 1, Due: 10}, {ID: 199, Contract: 1, Count: 1, Due: 10}}
	if debts, sums := fold(t, l); !slices.Equal(debts, want) || sums != (api.Sums{Owed: 4, Moved: 3, Open: 4}) {
		t.Errorf("%v, %v", debts, sums)
	}
}

func TestADebtThatIsDoneIsThereNoMore(t *testing.T) {
	for _, d := range []api.Deed{
		{Kind: api.DServe, ID: 4, Count: 2, At: 9},
		{Kind: api.DMove, ID: 4, To: 5, Contract: 2, Count: 2, At: 9},
		{Kind: api.DPay, ID: 4, Count: 2, At: 9},
	} {
		l := []api.Deed{{Kind: api.DOwe, ID: 4, Contract: 1, Count: 2, Due: 10}, d}
		debts, _ := fold(t, l)
		if slices.ContainsFunc(debts, func(x api.Debt) bool { return x.ID == 4 }) {
			t.Errorf("after %v there are %v", l, debts)
		}
		for _, next := range []api.Deed{
			{Kind: api.DOwe, ID: 4, Contract: 1, Count: 2, Due: 20, At: 9},
			{Kind: api.DServe, ID: 4, Count: 1, At: 9},
			{Kind: api.DMove, ID: 4, To: 6, Contract: 2, Count: 1, At: 9},
			{Kind: api.DPay, ID: 4, Count: 1, At: 9},
		} {
			refusesDeeds(t, append(slices.Clone(l), next), 2)
		}
	}
}

func TestNoDebtHasTheIDOfAnother(t *testing.T) {
	l := append(example(), api.Deed{Kind: api.DPay, ID: 2, Count: 1, At: 200}) // the debt 1 is there, 2 was there
	for id := range 200 {
		owe := append(slices.Clone(l), api.Deed{Kind: api.DOwe, ID: id, Contract: 3, Count: 1, Due: 300, At: 200})
		move := append(slices.Clone(l[:3]), api.Deed{Kind: api.DPay, ID: 2, Count: 1, At: 30}, api.Deed{Kind: api.DMove, ID: 1, To: id, Contract: 9, Count: 2, At: 30})
		if id == 1 || id == 2 {
			refusesDeeds(t, owe, 5)
			refusesDeeds(t, move, 4)
			continue
		}
		fold(t, owe)
		if debts, _ := fold(t, move); !slices.Equal(debts, []api.Debt{{ID: id, Contract: 9, Count: 2, Due: 100}}) {
			t.Errorf("after %v there are %v", move, debts)
		}
	}
}

func TestDeadlinesOfDeeds(t *testing.T) {
	owe := api.Deed{Kind: api.DOwe, ID: 1, Contract: 3, Count: 5, Due: 100}
	for at, can := range map[int][3]bool{0: {true, true, true}, 99: {true, true, true}, 100: {false, false, true}, 101: {false, false, true}, 9999999: {false, false, true}} {
		for k, d := range []api.Deed{
			{Kind: api.DServe, ID: 1, Count: 5, At: at},
			{Kind: api.DMove, ID: 1, To: 2, Contract: 4, Count: 5, At: at},
			{Kind: api.DPay, ID: 1, Count: 5, At: at},
		} {
			l := []api.Deed{owe, d}
			checkFold(t, l)
			if can[k] {
				fold(t, l)
			} else {
				refusesDeeds(t, l, 1)
			}
		}
	}
	// what was moved is due when it was due before, also if it is moved again
	l := []api.Deed{owe, {Kind: api.DMove, ID: 1, To: 2, Contract: 4, Count: 3, At: 50}, {Kind: api.DMove, ID: 2, To: 3, Contract: 3, Count: 2, At: 60}}
	for id := 1; id <= 3; id++ {
		fold(t, append(slices.Clone(l), api.Deed{Kind: api.DServe, ID: id, Count: 1, At: 99}))
		refusesDeeds(t, append(slices.Clone(l), api.Deed{Kind: api.DServe, ID: id, Count: 1, At: 100}), 3)
	}
}

func TestDeedsAreLimited(t *testing.T) {
	var l []api.Deed
	for count := range 130 {
		if count > 60 {
			refusesDeeds(t, l, 60)
		} else if _, sums := fold(t, l); sums != (api.Sums{Owed: count, Open: count}) {
			t.Errorf("after %d deeds: %v", count, sums)
		}
		l = append(l, api.Deed{Kind: api.DOwe, ID: count, Count: 1, Due: 5})
	}
	refusesDeeds(t, make([]api.Deed, 100000), 0)
	l[59].Count = 0
	refusesDeeds(t, l, 59)
	l[59].Count = 1
	l[60].Kind = 0
	refusesDeeds(t, l, 60)
}

func TestGreatestSums(t *testing.T) {
	var l []api.Deed
	for k := range 60 {
		l = append(l, api.Deed{Kind: api.DOwe, ID: 199 - k, Contract: 99, Count: 50, Due: 10000000, At: 9999999})
	}
	debts, sums := fold(t, l)
	if len(debts) != 60 || debts[0] != (api.Debt{ID: 140, Contract: 99, Count: 50, Due: 10000000}) || sums != (api.Sums{Owed: 3000, Open: 3000}) {
		t.Errorf("%v, %v", debts, sums)
	}
}

// numbers returns pointers to the numbers of a deed.
func numbers(d *api.Deed) []*int {
	return []*int{&d.Kind, &d.ID, &d.To, &d.Contract, &d.Count, &d.Due, &d.At}
}

func TestEveryNumberOfADeedIsChecked(t *testing.T) {
	for index := range example() {
		for field := range 7 {
			for _, value := range extremes {
				l := example()
				*numbers(&l[index])[field] = value
				checkFold(t, l)
				checkFold(t, l[:index+1])
			}
		}
	}
}

func TestEveryTwoNumbersOfADeedAreChecked(t *testing.T) {
	for index := range example() {
		for x := range 7 {
			for y := range x {
				for _, a := range extremes {
					for _, b := range extremes {
						l := example()[:index+1]
						*numbers(&l[index])[x], *numbers(&l[index])[y] = a, b
						checkFold(t, l)
					}
				}
			}
		}
	}
}

func TestFieldsThatAKindDoesNotNameAreZero(t *testing.T) {
	for index, fields := range [][]int{{2}, {2, 3, 5}, {5}, {2, 3, 5}} {
		for _, field := range fields {
			for _, value := range extremes {
				l := example()
				*numbers(&l[index])[field] = value
				if value == 0 {
					fold(t, l)
				} else {
					refusesDeeds(t, l, index)
				}
			}
		}
	}
}

// smallDeeds returns the deeds with small numbers, and some that can never be.
func smallDeeds() []api.Deed {
	var out []api.Deed
	for kind := range 6 {
		for number := range 64 {
			d := api.Deed{Kind: kind, ID: number & 1, To: number >> 1 & 1, Contract: number >> 2 & 1, Count: 1 + number>>3&1, At: number >> 4 & 1, Due: 2 * (number >> 5 & 1)}
			if kind != 1 && kind != 3 && d.To+d.Contract+d.Due > 1 {
				continue
			}
			if kind == 3 {
				d.To++ // 1 or 2
			}
			out = append(out, d)
		}
	}
	return out
}

func TestAllSmallDeeds(t *testing.T) {
	lists, right := [][]api.Deed{nil}, 0
	for range 3 {
		var next [][]api.Deed
		for _, l := range lists {
			for _, d := range smallDeeds() {
				longer := append(slices.Clone(l), d)
				if checkFold(t, longer) == len(longer) {
					next = append(next, longer)
				}
			}
		}
		lists = next
		right += len(lists)
	}
	if right < 1000 {
		t.Errorf("only %d lists are right", right)
	}
}

func TestAnyDeeds(t *testing.T) {
	random := rand.New(rand.NewSource(1))
	kinds, long, wrong := map[int]int{}, 0, 0
	for range 600 {
		l, others := anyDeeds(random, random.Intn(61))
		checkFold(t, l)
		fold(t, l)
		for _, d := range l {
			kinds[d.Kind]++
		}
		if len(l) >= 40 {
			long++
		}
		for _, d := range others {
			refusesDeeds(t, append(slices.Clone(l), d), len(l))
			wrong++
		}
		if len(l) > 0 {
			other := slices.Clone(l)
			*numbers(&other[random.Intn(len(l))])[random.Intn(7)] += random.Intn(5) - 2
			checkFold(t, other)
		}
	}
	if long < 100 || wrong < 2000 || kinds[1] < 2000 || kinds[2] < 2000 || kinds[3] < 2000 || kinds[4] < 2000 {
		t.Errorf("%d long lists, %d deeds that cannot be, and deeds by kinds: %v", long, wrong, kinds)
	}
}

func TestDeedsAreNotChanged(t *testing.T) {
	random := rand.New(rand.NewSource(2))
	for range 300 {
		l, _ := anyDeeds(random, 30)
		all := append(slices.Clone(l), api.Deed{At: -7}, api.Deed{At: -8})
		want := slices.Clone(all)
		debts, _ := fold(t, all[:len(l)])
		for k := range debts[:cap(debts)] {
			debts[:cap(debts)][k] = api.Debt{ID: -9}
		}
		if !slices.Equal(all, want) {
			t.Fatalf("%v became %v", want, all)
		}
		checkFold(t, l)
	}
}

func FuzzFold(f *testing.F) {
	f.Add(3, 5, 100, 0, 2, 1, 0, 0, 2, 0, 10, 3, 1, 2, 4, 1, 0, 20)
	f.Add(99, 50, 10000000, 9999999, 4, 1, 0, 0, 50, 0, 9999999, 1, 199, 0, 1, 1, 10000000, 9999999)
	f.Add(0, 1, 1, 0, 3, 1, 1, 1, 1, 0, 0, 3, 1, 2, 0, 1, 1, 0)
	f.Fuzz(func(t *testing.T, contract, count, due, at, kind1, id1, to1, contract1, count1, due1, at1, kind2, id2, to2, contract2, count2, due2, at2 int) {
		l := []api.Deed{
			{Kind: api.DOwe, ID: 1, Contract: contract, Count: count, Due: due, At: at},
			{Kind: kind1, ID: id1, To: to1, Contract: contract1, Count: count1, Due: due1, At: at1},
			{Kind: kind2, ID: id2, To: to2, Contract: contract2, Count: count2, Due: due2, At: at2},
		}
		for n := range 4 {
			if checkFold(t, l[:n]) < n {
				return
			}
		}
		debts, sums, _, _ := debt.Fold(l)
		if owedInAll(debts) != sums.Open || sums.Owed != sums.Served+sums.Paid+sums.Open {
			t.Fatalf("after %v: %v, %v", l, debts, sums)
		}
	})
}
