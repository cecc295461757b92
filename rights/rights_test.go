package rights_test

import (
	"math/rand"
	"slices"
	"testing"

	"aircheck/api"
	"aircheck/rights"
)

// P8.1: Valid and ValidUses

func TestValidLists(t *testing.T) {
	for _, l := range [][]api.Grant{
		nil,
		{},
		example(),
		slices.Repeat(example(), 6),
		{{Item: 0, Acts: 1, Regions: 1, Plays: 0, Window: api.Spell{From: 0, To: 1}}},
		{{Item: 199, Acts: 31, Regions: 255, Plays: 100, Window: api.Spell{From: 9999999, To: 10000000}}},
		{{Item: 199, Acts: 16, Regions: 128, Plays: 100, Window: api.Spell{From: 0, To: 10000000}}},
	} {
		if !rights.Valid(l) {
			t.Errorf("%v is not valid", l)
		}
	}
	for _, uses := range [][]api.Use{
		nil,
		{},
		{a, b, c},
		slices.Repeat([]api.Use{a, b}, 5),
		{{Item: 0, Acts: 1, Region: 0, At: 0}},
		{{Item: 199, Acts: 31, Region: 7, At: 9999999}},
	} {
		if !rights.ValidUses(uses) {
			t.Errorf("%v are not valid", uses)
		}
	}
}

func TestNumbersOfGrantsAndUsesAreLimited(t *testing.T) {
	for n := range 30 {
		l := slices.Repeat([]api.Grant{grant(255, 1)}, n)
		if n > 12 {
			refusesGrants(t, l)
		} else if !rights.Valid(l) {
			t.Errorf("%d grants are not valid", n)
		}
		uses := slices.Repeat([]api.Use{a}, n)
		if n > 10 {
			refusesUses(t, uses)
		} else if !rights.ValidUses(uses) {
			t.Errorf("%d uses are not valid", n)
		}
	}
	refusesGrants(t, slices.Repeat([]api.Grant{grant(255, 100)}, 100000))
	refusesUses(t, slices.Repeat([]api.Use{a}, 100000))
}

func TestEveryNumberOfAGrantIsChecked(t *testing.T) {
	for field := range 6 {
		for _, n := range extremes {
			for place := range 2 {
				l := example()
				*numbers(&l[place])[field] = n
				if !definedAsGrants(l) {
					refusesGrants(t, l)
				} else {
					checkCase(t, l, []api.Use{a, b, c}, definedAssign)
				}
			}
		}
	}
}

func TestEveryTwoNumbersOfAGrantAreChecked(t *testing.T) {
	for x := range 6 {
		for y := range x {
			for _, n := range extremes {
				for _, m := range extremes {
					l := example()
					*numbers(&l[1])[x], *numbers(&l[1])[y] = n, m
					if rights.Valid(l) != definedAsGrants(l) {
						t.Fatalf("Valid(%v) = %v", l, rights.Valid(l))
					}
				}
			}
		}
	}
}

func TestEveryNumberOfAUseIsChecked(t *testing.T) {
	for field := range 4 {
		for _, n := range extremes {
			for place := range 3 {
				uses := []api.Use{a, b, c}
				*numbersOfUse(&uses[place])[field] = n
				if !definedAsUses(uses) {
					refusesUses(t, uses)
				} else {
					checkCase(t, example(), uses, definedAssign)
				}
			}
		}
	}
}

func TestEveryTwoNumbersOfAUseAreChecked(t *testing.T) {
	for x := range 4 {
		for y := range x {
			for _, n := range extremes {
				for _, m := range extremes {
					u := a
					*numbersOfUse(&u)[x], *numbersOfUse(&u)[y] = n, m
					ok := definedAsUses([]api.Use{u})
					if rights.ValidUses([]api.Use{u}) != ok || rights.ValidUses([]api.Use{b, u, c}) != ok {
						t.Fatalf("ValidUses(%v) = %v", u, rights.ValidUses([]api.Use{u}))
					}
				}
			}
		}
	}
}

func TestInvalidListsAreRefusedTogether(t *testing.T) {
	wrong := []api.Grant{{}}
	refusesCase(t, wrong, []api.Use{{}})
	refusesCase(t, wrong, slices.Repeat([]api.Use{a}, 11))
	refusesCase(t, example(), []api.Use{{}})
	refusesGrants(t, wrong)
	refusesGrants(t, append(example(), api.Grant{}))
	refusesUses(t, []api.Use{a, {}})
}

// P8.1: Permits

func TestPermitsOfExamples(t *testing.T) {
	for _, x := range []struct {
		u    api.Use
		want []int
	}{
		{a, []int{0, 1}},
		{b, []int{0}},
		{c, nil},
		{api.Use{Item: 0, Acts: api.APlay}, nil},
		{api.Use{Item: 1, Acts: api.APlay, At: 49}, []int{0, 1}},
		{api.Use{Item: 1, Acts: api.APlay, At: 50}, []int{0}},
		{api.Use{Item: 1, Acts: api.APlay, At: 99}, []int{0}},
		{api.Use{Item: 1, Acts: api.APlay, At: 100}, nil},
		{api.Use{Item: 1, Acts: api.ATalk}, []int{1}},
		{api.Use{Item: 1, Acts: api.ATalk | api.AShift}, nil},
		{api.Use{Item: 1, Acts: api.APlay, Region: -1}, nil},
		{api.Use{Item: 1, Acts: api.APlay, Region: 8}, nil},
	} {
		if got := rights.Permits(example(), x.u); !slices.Equal(got, x.want) {
			t.Errorf("Permits(%v) = %v; want %v", x.u, got, x.want)
		}
	}
}

func TestActsOfAUseMustAllBeGranted(t *testing.T) {
	for granted := 1; granted <= 31; granted++ {
		for acts := 1; acts <= 31; acts++ {
			l := []api.Grant{{Acts: granted, Regions: 1, Window: api.Spell{From: 0, To: 1}}}
			got := len(rights.Permits(l, api.Use{Acts: acts})) == 1
			if got != (granted|acts == granted) || got != definedToPermit(l[0], api.Use{Acts: acts}) {
				t.Errorf("the acts %d, of which %d are granted: %v", acts, granted, got)
			}
		}
	}
}

func TestRegionOfAUseMustBeGranted(t *testing.T) {
	for regions := 1; regions <= 255; regions++ {
		for region := range 8 {
			l := []api.Grant{{Acts: 1, Regions: regions, Window: api.Spell{From: 0, To: 1}}}
			u := api.Use{Acts: 1, Region: region}
			if got := len(rights.Permits(l, u)) == 1; got != definedToPermit(l[0], u) {
				t.Errorf("the region %d of %d: %v", region, regions, got)
			}
		}
	}
}

func TestSecondOfAUseMustBeInTheWindow(t *testing.T) {
	for from := range 6 {
		for to := from + 1; to <= 6; to++ {
			l := []api.Grant{{Acts: 1, Regions: 1, Window: api.Spell{From: from, To: to}}}
			for at := range 8 {
				got := len(rights.Permits(l, api.Use{Acts: 1, At: at})) == 1
				if got != (from <= at && at < to) {
					t.Errorf("%d in the window from %d to %d: %v", at, from, to, got)
				}
			}
		}
	}
	l := []api.Grant{{Acts: 1, Regions: 1, Window: api.Spell{From: 9999999, To: 10000000}}}
	if got := rights.Permits(l, api.Use{Acts: 1, At: 9999999}); len(got) != 1 {
		t.Errorf("the last second: %v", got)
	}
}

func TestItemOfAUseMustBeGranted(t *testing.T) {
	var l []api.Grant
	for item := range 12 {
		l = append(l, api.Grant{Item: item * 18, Acts: 1, Regions: 1, Window: api.Spell{From: 0, To: 1}})
	}
	for item := range 200 {
		u := api.Use{Item: item, Acts: 1}
		if got := rights.Permits(l, u); !slices.Equal(got, definedPermits(l, u)) {
			t.Errorf("the item %d: %v", item, got)
		}
	}
}

func TestPlaysDoNotMatterToPermits(t *testing.T) {
	for plays := range 101 {
		l := []api.Grant{grant(1, plays), grant(1, 0)}
		if got := rights.Permits(l, inRegions(0)[0]); !slices.Equal(got, []int{0, 1}) {
			t.Errorf("with %d plays: %v", plays, got)
		}
	}
}

func TestAnyUseIsPermittedAsDefined(t *testing.T) {
	r := rand.New(rand.NewSource(1))
	for range 20000 {
		l := anyGrants(r, 12, 3)
		for _, u := range anyUses(r, 10, 3) {
			if got := rights.Permits(l, u); !slices.Equal(got, definedPermits(l, u)) {
				t.Fatalf("Permits(%v, %v) = %v", l, u, got)
			}
		}
	}
}

// P8.1: Withdraw

func TestWithdrawOfExamples(t *testing.T) {
	for _, x := range []struct {
		item, at int
		ends     []int
	}{
		{1, 30, []int{30, 30}},
		{1, 50, []int{50, 50}},
		{1, 51, []int{51, 50}},
		{1, 1, []int{1, 1}},
		{1, 0, nil},
		{1, api.MaxTime, []int{100, 50}},
		{0, 0, []int{100, 50}},
		{199, 30, []int{100, 50}},
	} {
		checkWithdraw(t, example(), x.item, x.at)
		var ends []int
		for _, g := range rights.Withdraw(example(), x.item, x.at) {
			ends = append(ends, g.Window.To)
		}
		if !slices.Equal(ends, x.ends) {
			t.Errorf("Withdraw of the item %d at %d: the windows end at %v; want %v", x.item, x.at, ends, x.ends)
		}
	}
}

func TestWithdrawChecksItsNumbers(t *testing.T) {
	wide := example()
	wide[0].Window.To = api.MaxTime
	wide[1].Item = 199
	for _, l := range [][]api.Grant{nil, example(), wide, {grant(3, 0)}} {
		for _, n := range extremes {
			checkWithdraw(t, l, n, 30)
			checkWithdraw(t, l, 1, n)
			for _, m := range extremes {
				checkWithdraw(t, l, n, m)
			}
		}
	}
}

func TestAllSmallWindowsAreWithdrawn(t *testing.T) {
	for from := range 5 {
		for to := from + 1; to <= 5; to++ {
			for at := range 8 {
				one := api.Grant{Item: 3, Acts: 31, Regions: 9, Plays: 7, Window: api.Spell{From: from, To: to}}
				other := one
				other.Item = 4
				checkWithdraw(t, []api.Grant{one, other, one}, 3, at)
			}
		}
	}
}

// P8.5

// checkWithdrawal fails unless, after the right to item is withdrawn at at, uses are permitted by as many grants as P8.5 says.
func checkWithdrawal(t *testing.T, l []api.Grant, item, at int, u api.Use) {
	t.Helper()
	want := len(rights.Permits(l, u))
	if u.Item == item && u.At >= at {
		want = 0
	}
	after := rights.Withdraw(l, item, at)
	if got := len(rights.Permits(after, u)); got != want {
		t.Fatalf("after Withdraw(%v, %d, %d), %v is permitted by %d grants; want %d", l, item, at, u, got, want)
	}
}

func TestWithdrawnRightsPermitNothing(t *testing.T) {
	r := rand.New(rand.NewSource(2))
	for range 2000 {
		l := anyGrants(r, 12, 3)
		item, at := r.Intn(4), r.Intn(24)
		for range 20 {
			u := api.Use{Item: r.Intn(4), Acts: 1 << r.Intn(5), Region: r.Intn(8), At: r.Intn(24)}
			checkWithdrawal(t, l, item, at, u)
			u.Item, u.At = item, max(at-1, 0)
			checkWithdrawal(t, l, item, at, u)
			u.At = at
			checkWithdrawal(t, l, item, at, u)
		}
	}
}

func TestWithdrawingTwiceIsWithdrawingEarlier(t *testing.T) {
	r := rand.New(rand.NewSource(3))
	for range 5000 {
		l := anyGrants(r, 12, 3)
		item, at, other := r.Intn(4), r.Intn(24), r.Intn(24)
		one := rights.Withdraw(rights.Withdraw(l, item, at), item, other)
		two := rights.Withdraw(rights.Withdraw(l, item, other), item, at)
		earlier := rights.Withdraw(l, item, min(at, other))
		if !slices.Equal(one, earlier) || !slices.Equal(two, earlier) {
			t.Fatalf("Withdraw(%v, %d) at %d and %d: %v; at %d and %d: %v; at the earlier one: %v", l, item, at, other, one, other, at, two, earlier)
		}
	}
}

func TestWithdrawingDifferentItems(t *testing.T) {
	r := rand.New(rand.NewSource(4))
	for range 2000 {
		l := anyGrants(r, 12, 3)
		at, other := r.Intn(24), r.Intn(24)
		one := rights.Withdraw(rights.Withdraw(l, 0, at), 1, other)
		two := rights.Withdraw(rights.Withdraw(l, 1, other), 0, at)
		if !slices.Equal(one, two) {
			t.Fatalf("Withdraw(%v) of the items 0 at %d and 1 at %d: %v and %v", l, at, other, one, two)
		}
	}
}

// R3

// withSpare returns a copy of l with more elements behind it, and all of them.
func withSpare[T any](l []T, extra T) ([]T, []T) {
	all := append(slices.Clone(l), extra, extra, extra)
	return all[:len(l)], all
}

func TestArgumentsAreNotChanged(t *testing.T) {
	r := rand.New(rand.NewSource(5))
	for range 1000 {
		l, uses := anyCase(r, 9, 7)
		assigned, _ := impliedAssign(l, uses)
		l, allGrants := withSpare(l, grant(6, 7))
		uses, allUses := withSpare(uses, c)
		assigned, allAssigned := withSpare(assigned, -7)
		grantsBefore, usesBefore, assignedBefore := slices.Clone(allGrants), slices.Clone(allUses), slices.Clone(allAssigned)
		checkCase(t, l, uses, impliedAssign)
		checkLeft(t, l, uses, assigned)
		checkWithdraw(t, l, 0, r.Intn(20))
		if !slices.Equal(allGrants, grantsBefore) || !slices.Equal(allUses, usesBefore) || !slices.Equal(allAssigned, assignedBefore) {
			t.Fatalf("arguments were changed: %v, %v, %v", grantsBefore, usesBefore, assignedBefore)
		}
	}
}

// spoil overwrites l and its spare capacity.
func spoil[T any](l []T, with T) {
	l = l[:cap(l)]
	for k := range l {
		l[k] = with
	}
}

func TestResultsAreNewMemory(t *testing.T) {
	r := rand.New(rand.NewSource(6))
	for range 500 {
		l, uses := anyCase(r, 9, 7)
		keep, keepUses := slices.Clone(l), slices.Clone(uses)
		for _, u := range uses {
			spoil(rights.Permits(l, u), -1)
		}
		assigned, _ := rights.Assign(l, uses)
		keepAssigned := slices.Clone(assigned)
		spoil(rights.Left(l, uses, assigned), -1)
		set, _ := rights.Lack(l, uses)
		spoil(set, -1)
		spoil(rights.Withdraw(l, 0, 5), api.Grant{})
		spoil(rights.Withdraw(l, 100, 5), api.Grant{})
		if !slices.Equal(assigned, keepAssigned) {
			t.Fatalf("a result shares memory with %v", keepAssigned)
		}
		spoil(assigned, -1)
		if !slices.Equal(l, keep) || !slices.Equal(uses, keepUses) {
			t.Fatalf("a result shares memory with %v or %v", keep, keepUses)
		}
		checkCase(t, l, uses, impliedAssign)
	}
}

func FuzzRights(f *testing.F) {
	f.Add(1, 1, 255, 1, 0, 100, 1, 3, 1, 2, 0, 50, 1, 1, 0, 10, 1, 1, 1, 10, 30)
	f.Add(199, 31, 255, 100, 0, 10000000, 199, 31, 255, 0, 9999999, 10000000, 199, 31, 7, 9999999, 199, 16, 7, 0, 10000000)
	f.Add(-1, 0, 0, 0, 0, 0, 0, 0, 0, 0, 0, 0, 0, 0, 0, 0, 0, 0, 0, 0, -1)
	f.Fuzz(func(t *testing.T, item1, acts1, regions1, plays1, from1, to1, item2, acts2, regions2, plays2, from2, to2, item3, acts3, region3, at3, item4, acts4, region4, at4, at int) {
		l := []api.Grant{
			{Item: item1, Acts: acts1, Regions: regions1, Plays: plays1, Window: api.Spell{From: from1, To: to1}},
			{Item: item2, Acts: acts2, Regions: regions2, Plays: plays2, Window: api.Spell{From: from2, To: to2}},
		}
		uses := []api.Use{{Item: item3, Acts: acts3, Region: region3, At: at3}, {Item: item4, Acts: acts4, Region: region4, At: at4}}
		if definedAsGrants(l) && definedAsUses(uses) {
			checkCase(t, l, uses, definedAssign)
			checkWithdraw(t, l, item1, at)
			return
		}
		if !definedAsGrants(l) {
			refusesGrants(t, l)
		}
		if !definedAsUses(uses) {
			refusesUses(t, uses)
		}
		refusesCase(t, l, uses)
	})
}
