package debt_test

import (
	"math"
	"math/rand"
	"slices"
	"testing"

	"aircheck/api"
	"aircheck/debt"
)

// P14.1: Valid

// full returns as many debts and openings as there may be, with the greatest numbers.
func full() ([]api.Debt, []api.Opening) {
	var debts []api.Debt
	for k := range 20 {
		debts = append(debts, api.Debt{ID: 180 + k, Contract: 99, Count: 50, Due: 10000000})
	}
	var openings []api.Opening
	for k := range 40 {
		openings = append(openings, api.Opening{At: 9999960 + k, Count: 20})
	}
	return debts, openings
}

func TestValidArguments(t *testing.T) {
	debts, openings := full()
	for _, d := range [][]api.Debt{nil, {}, two(), debts, {{ID: 0, Contract: 0, Count: 1, Due: 0}, {ID: 199, Contract: 99, Count: 50, Due: 10000000}}} {
		for _, o := range [][]api.Opening{nil, {}, three(), openings, {{At: 0, Count: 1}, {At: 9999999, Count: 20}}} {
			for _, now := range extremes {
				checkCase(t, d, o, now)
				if !within(now, 0, 9999999) {
					refuses(t, d, o, now)
				} else if !debt.Valid(d, o, now) {
					t.Errorf("%v, %v and %d are not valid", d, o, now)
				}
			}
		}
	}
}

func TestDebtsAndOpeningsAreLimited(t *testing.T) {
	var debts []api.Debt
	var openings []api.Opening
	for count := range 100 {
		checkCase(t, debts, three(), 0)
		checkCase(t, two(), openings, 0)
		if count > 20 {
			refuses(t, debts, three(), 0)
		} else if !debt.Valid(debts, three(), 0) {
			t.Errorf("%d debts are not valid", count)
		}
		if count > 40 {
			refuses(t, two(), openings, 0)
		} else if !debt.Valid(two(), openings, 0) {
			t.Errorf("%d openings are not valid", count)
		}
		debts = append(debts, api.Debt{ID: count, Count: 1, Due: 500})
		openings = append(openings, api.Opening{At: count, Count: 1})
	}
	refuses(t, make([]api.Debt, 100000), nil, 0)
	refuses(t, nil, make([]api.Opening, 100000), 0)
}

func TestDebtsAndOpeningsAscend(t *testing.T) {
	for a := range 4 {
		for b := range 4 {
			for c := range 4 {
				debts := []api.Debt{{ID: a, Count: 1, Due: 50}, {ID: b, Count: 1, Due: 40}, {ID: c, Count: 1, Due: 30}}
				openings := []api.Opening{{At: a, Count: 1}, {At: b, Count: 1}, {At: c, Count: 1}}
				checkCase(t, debts, three(), 0)
				checkCase(t, two(), openings, 0)
				if a >= b || b >= c {
					refuses(t, debts, three(), 0)
					refuses(t, two(), openings, 0)
				}
			}
		}
	}
}

func TestEveryNumberOfADebtIsChecked(t *testing.T) {
	for field := range 4 {
		for _, value := range extremes {
			for index := range two() {
				debts := two()
				d := &debts[index]
				*[]*int{&d.ID, &d.Contract, &d.Count, &d.Due}[field] = value
				for _, now := range []int{0, 10, 20, 50, 9999999} {
					checkCase(t, debts, three(), now)
				}
			}
		}
	}
	for field, value := range []int{200, 100, 51, 10000001} {
		debts, openings := full()
		d := &debts[19]
		*[]*int{&d.ID, &d.Contract, &d.Count, &d.Due}[field] = value
		refuses(t, debts, openings, 0)
	}
}

func TestEveryNumberOfAnOpeningIsChecked(t *testing.T) {
	for field := range 2 {
		for _, value := range extremes {
			for index := range three() {
				openings := three()
				o := &openings[index]
				*[]*int{&o.At, &o.Count}[field] = value
				for _, now := range []int{0, 10, 20, 50, 9999999} {
					checkCase(t, two(), openings, now)
				}
			}
		}
	}
	for field, value := range []int{10000000, 21} {
		debts, openings := full()
		o := &openings[39]
		*[]*int{&o.At, &o.Count}[field] = value
		refuses(t, debts, openings, 0)
	}
}

// P14.1: Plan and Lack

// servingsOf returns servings from triples of a debt, a second and a count.
func servingsOf(triples ...[3]int) []api.Serving {
	var out []api.Serving
	for _, x := range triples {
		out = append(out, api.Serving{Debt: x[0], At: x[1], Count: x[2]})
	}
	return out
}

func TestPlanAndLackOfExamples(t *testing.T) {
	whole := servingsOf([3]int{2, 10, 2}, [3]int{2, 40, 1}, [3]int{1, 40, 1}, [3]int{1, 60, 1})
	some := servingsOf([3]int{2, 40, 2}, [3]int{1, 60, 2})
	for _, x := range []struct {
		now  int
		want []api.Serving
		lack int
	}{
		{0, whole, 0}, {10, whole, 0}, {11, some, 50}, {20, some, 50}, {40, some, 50}, {41, some[1:], 50}, {60, some[1:], 50}, {61, nil, 50}, {9999999, nil, 50},
	} {
		got, all := plan(t, two(), three(), x.now)
		if !slices.Equal(got, x.want) || all != (x.lack == 0) {
			t.Errorf("the plan at %d is %v, %v; want %v", x.now, got, all, x.want)
		}
		if due, is := debt.Lack(two(), three(), x.now); due != x.lack || is != (x.lack != 0) {
			t.Errorf("the lack at %d is %d, %v; want %d", x.now, due, is, x.lack)
		}
		checkCase(t, two(), three(), x.now)
	}
}

func TestNothingIsServedAtItsDeadline(t *testing.T) {
	for due := range 45 {
		debts := []api.Debt{{ID: 5, Count: 2, Due: due}}
		got, all := plan(t, debts, []api.Opening{{At: 40, Count: 1}, {At: 42, Count: 1}}, 0)
		var want []api.Serving
		for _, at := range []int{40, 42} {
			if at < due {
				want = append(want, api.Serving{Debt: 5, At: at, Count: 1})
			}
		}
		if !slices.Equal(got, want) || all != (due > 42) {
			t.Errorf("due at %d: %v, %v; want %v", due, got, all, want)
		}
		lack, is := debt.Lack(debts, []api.Opening{{At: 40, Count: 1}, {At: 42, Count: 1}}, 0)
		if is != (due <= 42) || is && lack != due {
			t.Errorf("due at %d: the lack %d, %v", due, lack, is)
		}
	}
}

func TestTheLeastDeadlineAndThenTheLeastIDIsServedFirst(t *testing.T) {
	debts := []api.Debt{{ID: 3, Count: 1, Due: 60}, {ID: 4, Count: 2, Due: 50}, {ID: 8, Count: 1, Due: 50}, {ID: 9, Count: 1, Due: 49}}
	order := []int{9, 4, 4, 8, 3}
	for room := 1; room <= 20; room++ {
		var want []int
		if room < 5 {
			want = order[:room]
		} else {
			want = order
		}
		got, all := plan(t, debts, []api.Opening{{At: 10, Count: room}}, 10)
		var served []int
		for _, s := range got {
			for range s.Count {
				served = append(served, s.Debt)
			}
		}
		if !slices.Equal(served, want) || all != (room >= 5) {
			t.Errorf("with room for %d: %v, %v", room, got, all)
		}
	}
}

func TestNothingToServe(t *testing.T) {
	for _, now := range []int{0, 10, 61} {
		if got, all := plan(t, nil, three(), now); len(got) != 0 || !all {
			t.Errorf("without debts: %v, %v", got, all)
		}
		if got, all := plan(t, two(), nil, now); len(got) != 0 || all {
			t.Errorf("without openings: %v, %v", got, all)
		}
		if due, is := debt.Lack(nil, three(), now); due != 0 || is {
			t.Errorf("without debts: the lack %d, %v", due, is)
		}
		if due, is := debt.Lack(two(), nil, now); due != 50 || !is {
			t.Errorf("without openings: the lack %d, %v", due, is)
		}
	}
	if due, is := debt.Lack([]api.Debt{{ID: 1, Count: 1, Due: 0}}, three(), 0); due != 0 || !is {
		t.Errorf("due at 0: the lack %d, %v", due, is)
	}
}

func TestDebtsWithTheSameDeadlineLackTogether(t *testing.T) {
	debts := []api.Debt{{ID: 1, Count: 2, Due: 60}, {ID: 2, Count: 2, Due: 50}, {ID: 3, Count: 3, Due: 60}}
	for room := 1; room <= 20; room++ {
		want := 0
		if room < 7 {
			want = 60
		}
		if room < 2 {
			want = 50
		}
		if due, is := debt.Lack(debts, []api.Opening{{At: 20, Count: room}}, 0); due != want || is != (want > 0) {
			t.Errorf("with room for %d: the lack %d, %v; want %d", room, due, is, want)
		}
	}
}

func TestGreatestPlan(t *testing.T) {
	debts, openings := full()
	if got, all := plan(t, debts, openings, 9999960); inAll(got) != 800 || all {
		t.Errorf("%d of 1000 are served", inAll(got))
	}
	if due, is := debt.Lack(debts, openings, 0); due != 10000000 || !is {
		t.Errorf("the lack %d, %v", due, is)
	}
	if got, all := plan(t, debts[:16], openings, 9999960); inAll(got) != 800 || !all || !debt.Check(debts[:16], openings, 9999960, got) {
		t.Errorf("%d of 800 are served", inAll(got))
	}
}

// P14.1: Check

func TestCheckOfExamples(t *testing.T) {
	for _, x := range []struct {
		l    []api.Serving
		want bool
	}{
		{servingsOf([3]int{1, 60, 2}, [3]int{2, 40, 1}, [3]int{2, 10, 2}), true},
		{servingsOf([3]int{2, 10, 1}, [3]int{1, 60, 1}, [3]int{2, 10, 1}, [3]int{2, 40, 1}, [3]int{1, 60, 1}), true}, // several alike
		{servingsOf([3]int{1, 10, 2}, [3]int{2, 40, 2}), false},                                                      // not wholly
		{servingsOf([3]int{1, 60, 2}), false},                                                                        // not all
		{servingsOf([3]int{1, 60, 3}, [3]int{2, 40, 1}, [3]int{2, 10, 2}), false},                                    // more than is owed
		{servingsOf([3]int{1, 60, 2}, [3]int{2, 40, 2}, [3]int{2, 10, 2}), false},
		{servingsOf([3]int{1, 60, 2}, [3]int{2, 40, 1}, [3]int{2, 10, 2}, [3]int{1, 60, 1}), false},
		{servingsOf([3]int{1, 40, 2}, [3]int{2, 40, 1}, [3]int{2, 10, 2}), false},                   // more than there is room for
		{servingsOf([3]int{1, 60, 2}, [3]int{2, 60, 1}, [3]int{2, 10, 2}), false},                   // after the deadline
		{servingsOf([3]int{1, 60, 2}, [3]int{2, 41, 1}, [3]int{2, 10, 2}), false},                   // no opening
		{servingsOf([3]int{1, 60, 2}, [3]int{3, 40, 1}, [3]int{2, 10, 2}), false},                   // no debt
		{servingsOf([3]int{1, 60, 2}, [3]int{2, 40, 1}, [3]int{2, 10, 2}, [3]int{2, 40, 0}), false}, // nothing is served
		{servingsOf([3]int{1, 60, 2}, [3]int{2, 40, 2}, [3]int{2, 10, 2}, [3]int{2, 40, -1}), false},
		{nil, false},
	} {
		if checkServings(t, two(), three(), 0, x.l) != x.want {
			t.Errorf("Check of %v is not %v", x.l, x.want)
		}
		for now := range 62 {
			if got := checkServings(t, two(), three(), now, x.l); got != (x.want && now <= 10) {
				t.Errorf("Check of %v at %d: %v", x.l, now, got)
			}
		}
	}
	if !debt.Check(nil, nil, 0, nil) || !debt.Check(nil, three(), 9999999, nil) || debt.Check(nil, three(), 0, servingsOf([3]int{1, 10, 1})) {
		t.Error("Check without debts")
	}
}

func TestADeadlineAtAnOpening(t *testing.T) {
	for due := 38; due < 43; due++ {
		debts := []api.Debt{{ID: 0, Count: 1, Due: due}}
		if got := debt.Check(debts, []api.Opening{{At: 40, Count: 1}}, 0, servingsOf([3]int{0, 40, 1})); got != (due > 40) {
			t.Errorf("due at %d: %v", due, got)
		}
	}
}

func TestCountsOfServingsAreAtLeastOneAndDoNotWrapAround(t *testing.T) {
	for _, x := range [][]int{{math.MaxInt, math.MaxInt, 4}, {math.MaxInt, math.MinInt, 3}, {math.MinInt, math.MinInt, 2}, {1 << 62, 1 << 62, 1 << 62, 1 << 62, 2}, {1 << 32, -1 << 32, 2}, {1<<32 + 2}, {-1<<32 + 2}, {3, -1}, {-1, 3}, {0, 2}, {0, 1, 1}} {
		l := servingsOf([3]int{2, 40, 1}, [3]int{2, 10, 2})
		for _, count := range x {
			l = append(l, api.Serving{Debt: 1, At: 60, Count: count})
		}
		for range len(l) {
			l = append(l[1:], l[0])
			if checkServings(t, two(), three(), 0, l) {
				t.Errorf("%v make good for all", l)
			}
		}
	}
}

func TestEveryNumberOfAServingIsChecked(t *testing.T) {
	good := servingsOf([3]int{1, 60, 2}, [3]int{2, 40, 1}, [3]int{2, 10, 2})
	accepted := 0
	for index := range good {
		for field := range 3 {
			for _, value := range extremes {
				l := slices.Clone(good)
				s := &l[index]
				*[]*int{&s.Debt, &s.At, &s.Count}[field] = value
				if checkServings(t, two(), three(), 0, l) {
					accepted++
				}
				checkServings(t, two(), three(), 0, append(slices.Clone(good), l[index]))
			}
		}
	}
	if accepted != 9 { // each number as it is
		t.Errorf("%d were accepted", accepted)
	}
}

func TestServingsAreLimited(t *testing.T) {
	debts, openings := full()
	var l []api.Serving
	for count := range 800 {
		l = append(l, api.Serving{Debt: 180 + count/50, At: 9999960 + count/20, Count: 1})
	}
	if !checkServings(t, debts[:16], openings, 0, l) {
		t.Error("800 servings of one each are not accepted")
	}
	for _, more := range []int{1, 199, 200, 201, 99999} {
		if checkServings(t, debts[:16], openings, 0, append(slices.Clone(l), make([]api.Serving, more)...)) {
			t.Errorf("%d servings are accepted", 800+more)
		}
	}
	if debt.Check(nil, three(), 0, make([]api.Serving, 1001)) {
		t.Error("1001 servings are accepted")
	}
}

// P14.1: all functions

// smallDebts returns the lists of at most this many debts with IDs from 0 on, small counts and deadlines.
func smallDebts(most int) [][]api.Debt {
	out := [][]api.Debt{nil}
	for k := 0; k < len(out) && len(out[k]) < most; k++ {
		for number := range 8 {
			out = append(out, append(slices.Clone(out[k]), api.Debt{ID: len(out[k]), Count: 1 + number&1, Due: number >> 1}))
		}
	}
	return out
}

// smallOpenings returns the lists of openings at the seconds 0, 1 and 2 with small counts.
func smallOpenings() [][]api.Opening {
	var out [][]api.Opening
	for number := range 27 {
		var l []api.Opening
		for at, count := range []int{number % 3, number / 3 % 3, number / 9} {
			if count > 0 {
				l = append(l, api.Opening{At: at, Count: count})
			}
		}
		out = append(out, l)
	}
	return out
}

func TestAllSmallCases(t *testing.T) {
	for _, debts := range smallDebts(3) {
		for _, openings := range smallOpenings() {
			for now := range 3 {
				checkCase(t, debts, openings, now)
			}
		}
	}
}

func TestCheckOfAllSmallServings(t *testing.T) {
	accepted := 0
	for _, debts := range smallDebts(2) {
		for _, openings := range smallOpenings() {
			lists := [][]api.Serving{nil}
			for k := 0; k < len(lists) && len(lists[k]) < 3; k++ {
				for number := range 12 {
					next := api.Serving{Debt: number & 1, At: number >> 1 % 3, Count: 1 + number/6}
					lists = append(lists, append(slices.Clone(lists[k]), next))
				}
			}
			for _, l := range lists {
				if checkServings(t, debts, openings, 0, l) {
					accepted++
				}
			}
		}
	}
	if accepted < 1000 {
		t.Errorf("only %d are accepted", accepted)
	}
}

func TestAnyCase(t *testing.T) {
	random := rand.New(rand.NewSource(7))
	whole, some, none := 0, 0, 0
	for range 20000 {
		debts, openings, now, _ := anyCase(random)
		if !debt.Valid(debts, openings, now) {
			t.Fatalf("%v, %v and %d are not valid", debts, openings, now)
		}
		checkCase(t, debts, openings, now)
		got, all := plan(t, debts, openings, now)
		switch {
		case all && len(debts) > 0:
			whole++
		case len(got) > 0:
			some++
		default:
			none++
		}
	}
	if whole < 3000 || some < 3000 || none < 1000 {
		t.Errorf("all was made good for in %d cases, some in %d, nothing in %d", whole, some, none)
	}
}

func TestDebtsAndOpeningsAreNotChanged(t *testing.T) {
	random := rand.New(rand.NewSource(8))
	for range 1000 {
		debts, openings, now, _ := anyCase(random)
		debts, openings = append(debts, api.Debt{ID: -7}), append(openings, api.Opening{At: -7})
		got, _ := plan(t, debts[:len(debts)-1], openings[:len(openings)-1], now)
		l := append(slices.Clone(got), api.Serving{Count: -7})
		wantDebts, wantOpenings, want := slices.Clone(debts), slices.Clone(openings), slices.Clone(l)
		debt.Lack(debts[:len(debts)-1], openings[:len(openings)-1], now)
		debt.Check(debts[:len(debts)-1], openings[:len(openings)-1], now, l[:len(l)-1])
		plan(t, debts[:len(debts)-1], openings[:len(openings)-1], now)
		for k := range got[:cap(got)] {
			got[:cap(got)][k] = api.Serving{Debt: -9}
		}
		if !slices.Equal(debts, wantDebts) || !slices.Equal(openings, wantOpenings) || !slices.Equal(l, want) {
			t.Fatalf("%v, %v and %v became %v, %v and %v", wantDebts, wantOpenings, want, debts, openings, l)
		}
		if debts[len(debts)-1].ID != -7 || openings[len(openings)-1].At != -7 {
			t.Fatalf("spare capacity was written to")
		}
		checkCase(t, debts[:len(debts)-1], openings[:len(openings)-1], now)
	}
}

func FuzzPlan(f *testing.F) {
	f.Add(1, 3, 2, 100, 2, 4, 3, 50, 10, 2, 40, 2, 60, 3, 20, 2, 40, 2)
	f.Add(0, 0, 1, 0, 199, 99, 50, 10000000, 0, 1, 5, 20, 9999999, 20, 0, 199, 5, 20)
	f.Add(-1, 100, 51, 10000001, 200, 0, 0, -1, -1, 0, 10000000, 21, 5, 5, 10000000, 3, -1, 0)
	f.Fuzz(func(t *testing.T, id1, contract1, count1, due1, id2, contract2, count2, due2, at1, room1, at2, room2, at3, room3, now, served, at, count int) {
		debts := []api.Debt{{ID: id1, Contract: contract1, Count: count1, Due: due1}, {ID: id2, Contract: contract2, Count: count2, Due: due2}}
		openings := []api.Opening{{At: at1, Count: room1}, {At: at2, Count: room2}, {At: at3, Count: room3}}
		for d := range 3 {
			for o := range 4 {
				checkCase(t, debts[:d], openings[:o], now)
				l, _, _ := debt.Plan(debts[:d], openings[:o], now)
				l = append(l, api.Serving{Debt: served, At: at, Count: count})
				checkServings(t, debts[:d], openings[:o], now, l)
				checkServings(t, debts[:d], openings[:o], now, l[1:])
			}
		}
	})
}
