package rights_test

import (
	"math/rand"
	"slices"
	"testing"

	"aircheck/api"
	"aircheck/rights"
)

// P8.1: Assign, Lack and Left

func TestAssignAndLackOfExamples(t *testing.T) {
	for _, x := range []struct {
		l    []api.Grant
		uses []api.Use
		want []int
		lack []int
	}{
		{example(), nil, nil, nil},
		{nil, nil, nil, nil},
		{nil, []api.Use{a}, nil, []int{0}},
		{example(), []api.Use{a}, []int{0}, nil},
		{example(), []api.Use{a, b}, []int{1, 0}, nil},
		{example(), []api.Use{b, a}, []int{0, 1}, nil},
		{example(), []api.Use{a, b, c}, nil, []int{2}},
		{example(), []api.Use{c, a, c}, nil, []int{0}},
		{example(), []api.Use{b, b}, nil, []int{0, 1}},
		{example(), []api.Use{a, b, a, b}, nil, []int{1, 3}},
		{example(), []api.Use{a, a, a}, []int{0, 1, 1}, nil},
		{example(), []api.Use{a, a, a, a}, nil, []int{0, 1, 2, 3}},
		// Of two sets with as many uses it is the first one, although the last use lacks plays with the second one, too.
		{[]api.Grant{grant(3, 1), grant(12, 1)}, inRegions(0, 2, 1, 3), nil, []int{0, 2}},
		{[]api.Grant{grant(3, 1), grant(12, 1)}, inRegions(2, 0, 1, 3), nil, []int{0, 3}},
		// A set with fewer uses comes before one that is earlier.
		{[]api.Grant{grant(1, 1)}, inRegions(0, 0, 1), nil, []int{2}},
		{[]api.Grant{grant(1, 2), grant(2, 1)}, inRegions(0, 0, 0, 1, 1), nil, []int{3, 4}},
		// Grants without plays permit uses, and are given none.
		{[]api.Grant{grant(1, 0), grant(1, 1)}, inRegions(0), []int{1}, nil},
		{[]api.Grant{grant(1, 0)}, inRegions(0), nil, []int{0}},
		// A use gives way to a later one.
		{[]api.Grant{grant(7, 1), grant(3, 1), grant(1, 1)}, inRegions(0, 1, 2), []int{2, 1, 0}, nil},
		{[]api.Grant{grant(7, 1), grant(3, 1), grant(1, 1)}, inRegions(0, 1), []int{0, 1}, nil},
	} {
		got, e := rights.Assign(x.l, x.uses)
		if !slices.Equal(got, x.want) || (e == api.OK) != (x.lack == nil) || e != api.OK && e != api.ErrRights {
			t.Errorf("Assign(%v, %v) = %v, %d; want %v", x.l, x.uses, got, e, x.want)
		}
		if set, is := rights.Lack(x.l, x.uses); !slices.Equal(set, x.lack) || is != (x.lack != nil) {
			t.Errorf("Lack(%v, %v) = %v, %v; want %v", x.l, x.uses, set, is, x.lack)
		}
		checkCase(t, x.l, x.uses, definedAssign)
	}
}

func TestLeftOfExamples(t *testing.T) {
	for _, x := range []struct {
		l        []api.Grant
		uses     []api.Use
		assigned []int
		want     []int
	}{
		{example(), []api.Use{a, b}, []int{1, 0}, []int{0, 1}},
		{example(), []api.Use{a, a}, []int{1, 1}, []int{1, 0}},
		{example(), []api.Use{a, a}, []int{1, 0}, []int{0, 1}},
		{example(), []api.Use{a}, []int{0}, []int{0, 2}},
		{example(), nil, nil, []int{1, 2}},
		{nil, nil, nil, nil},
		{example(), []api.Use{a, a}, []int{0, 0}, nil},
		{example(), []api.Use{a, a, a}, []int{1, 1, 1}, nil},
		{example(), []api.Use{a, b}, []int{1, 1}, nil},
		{example(), []api.Use{a, c}, []int{1, 0}, nil},
		{example(), []api.Use{a, b}, []int{1}, nil},
		{example(), []api.Use{a}, []int{1, 0}, nil},
		{example(), []api.Use{a, b}, nil, nil},
		{example(), nil, []int{1}, nil},
		{example(), []api.Use{a, b}, []int{2, 0}, nil},
		{example(), []api.Use{a, b}, []int{-1, 0}, nil},
		{nil, []api.Use{a}, []int{0}, nil},
		{[]api.Grant{grant(1, 0), grant(1, 100)}, inRegions(0), []int{1}, []int{0, 99}},
		{[]api.Grant{grant(1, 0), grant(1, 100)}, inRegions(0), []int{0}, nil},
	} {
		if got := rights.Left(x.l, x.uses, x.assigned); !slices.Equal(got, x.want) {
			t.Errorf("Left(%v, %v, %v) = %v; want %v", x.l, x.uses, x.assigned, got, x.want)
		}
		checkLeft(t, x.l, x.uses, x.assigned)
	}
}

func TestLeftChecksEveryIndex(t *testing.T) {
	uses := []api.Use{a, b, a}
	for size := range 5 {
		tuples(size, 5, func(l []int) bool {
			assigned := slices.Clone(l)
			for k := range assigned {
				assigned[k] -= 2
			}
			checkLeft(t, example(), uses, assigned)
			return true
		})
	}
	for _, n := range extremes {
		checkLeft(t, example(), uses, []int{n, 0, 1})
		checkLeft(t, example(), uses, []int{1, n, 1})
		checkLeft(t, example(), uses, []int{1, 0, n})
	}
	checkLeft(t, example(), nil, make([]int, 100000))
	checkLeft(t, example(), uses, make([]int, 100000))
}

// smallCases calls check with grants and uses of every shape: this many uses, each in a region of its own, and this many grants, each to any of these regions (or to none of them) and with at most this many plays.
func smallCases(uses, grants, plays int, check func(l []api.Grant, uses []api.Use)) {
	var shapes []api.Grant
	for regions := range 1 << uses {
		for n := range plays + 1 {
			// the region 7, in which there is no use, so that the grant may have none of the others
			shapes = append(shapes, grant(regions|128, n))
		}
	}
	us := inRegions([]int{0, 1, 2, 3, 4}[:uses]...)
	tuples(grants, len(shapes), func(l []int) bool {
		var out []api.Grant
		for _, k := range l {
			out = append(out, shapes[k])
		}
		check(out, us)
		return true
	})
}

func TestAllSmallCasesAreAsDefined(t *testing.T) {
	count := 0
	check := func(l []api.Grant, uses []api.Use) {
		count++
		checkCase(t, l, uses, definedAssign)
	}
	smallCases(1, 3, 1, check)
	smallCases(2, 3, 2, check)
	smallCases(3, 3, 1, check)
	smallCases(3, 2, 3, check)
	smallCases(4, 2, 2, check)
	smallCases(5, 2, 1, check)
	if count < 10000 {
		t.Errorf("only %d were checked", count)
	}
}

func TestTheModelsAgree(t *testing.T) {
	check := func(l []api.Grant, uses []api.Use) {
		one, ok := definedAssign(l, uses)
		if two, is := impliedAssign(l, uses); !slices.Equal(one, two) || ok != is {
			t.Fatalf("%v, %v: %v, %v and %v, %v", l, uses, one, ok, two, is)
		}
	}
	smallCases(3, 2, 2, check)
	smallCases(2, 3, 2, check)
}

func TestAnyCaseIsAsDefined(t *testing.T) {
	r := rand.New(rand.NewSource(11))
	assigned, lacked := 0, 0
	for range 3000 {
		l, uses := anyCase(r, 12, 10)
		checkCase(t, l, uses, impliedAssign)
		if _, ok := impliedAssign(l, uses); ok {
			assigned++
		} else {
			lacked++
		}
	}
	for range 3000 {
		l, uses := anyCase(r, 4, 5)
		checkCase(t, l, uses, definedAssign)
	}
	if assigned < 300 || lacked < 300 {
		t.Errorf("%d were assigned, %d lacked plays", assigned, lacked)
	}
}

// rows returns grants, each for playing in the regions of these bits, with the plays.
func rows(plays int, regions ...int) []api.Grant {
	var out []api.Grant
	for _, n := range regions {
		out = append(out, grant(n, plays))
	}
	return out
}

func TestFullListsAreAssigned(t *testing.T) {
	// Trying all lists of indices would not end with these.
	twelve := slices.Repeat([]api.Grant{grant(127, 1)}, 12)
	generous := slices.Repeat([]api.Grant{grant(127, 100)}, 12)
	for _, x := range []struct {
		l    []api.Grant
		uses []api.Use
		want []int
		lack []int
	}{
		{twelve, inRegions(0, 1, 2, 3, 4, 5, 6, 0, 1, 2), []int{0, 1, 2, 3, 4, 5, 6, 7, 8, 9}, nil},
		{twelve[:10], inRegions(0, 1, 2, 3, 4, 5, 6, 0, 1, 2), []int{0, 1, 2, 3, 4, 5, 6, 7, 8, 9}, nil},
		{twelve[:9], inRegions(0, 1, 2, 3, 4, 5, 6, 0, 1, 2), nil, []int{0, 1, 2, 3, 4, 5, 6, 7, 8, 9}},
		{generous, inRegions(0, 1, 2, 3, 4, 5, 6, 0, 1, 2), make([]int, 10), nil},
		{generous, inRegions(0, 1, 2, 3, 4, 5, 6, 0, 1, 7), nil, []int{9}},
		{append(rows(1, 128), generous[:11]...), inRegions(7, 7, 0, 0, 0, 0, 0, 0, 0, 0), nil, []int{0, 1}},
		{append(slices.Clone(generous[:11]), grant(128, 1)), inRegions(0, 0, 0, 0, 0, 0, 0, 0, 7, 7), nil, []int{8, 9}},
		{append(slices.Clone(twelve[:11]), grant(128, 1)), inRegions(0, 0, 0, 0, 0, 0, 0, 0, 0, 7), []int{0, 1, 2, 3, 4, 5, 6, 7, 8, 11}, nil},
		// Each use has to give way to the one after it, which gives way in turn.
		{rows(1, 3, 6, 12, 24, 48, 96, 192, 128), inRegions(7, 6, 5, 4, 3, 2, 1, 0), []int{7, 6, 5, 4, 3, 2, 1, 0}, nil},
		{rows(1, 1, 3, 6, 12, 24, 48, 96, 192), inRegions(7, 6, 5, 4, 3, 2, 1, 0), []int{7, 6, 5, 4, 3, 2, 1, 0}, nil},
		{rows(1, 129, 3, 6, 12, 24, 48, 96, 192), inRegions(0, 1, 2, 3, 4, 5, 6, 7), []int{0, 1, 2, 3, 4, 5, 6, 7}, nil},
		{rows(1, 128, 192, 96, 48, 24, 12, 6, 3), inRegions(0, 1, 2, 3, 4, 5, 6, 7), []int{7, 6, 5, 4, 3, 2, 1, 0}, nil},
		{rows(1, 255, 127, 63, 31, 15, 7, 3, 1), inRegions(0, 1, 2, 3, 4, 5, 6, 7), []int{7, 6, 5, 4, 3, 2, 1, 0}, nil},
		{rows(1, 255, 127, 63, 31, 15, 7, 3), inRegions(0, 1, 2, 3, 4, 5, 6, 7), nil, []int{0, 1, 2, 3, 4, 5, 6, 7}},
		{rows(2, 3, 3, 12, 12, 48), inRegions(0, 1, 0, 1, 2, 3, 2, 3, 4, 5), []int{0, 0, 1, 1, 2, 2, 3, 3, 4, 4}, nil},
		{rows(2, 3, 3, 12, 48, 48), inRegions(0, 1, 0, 1, 2, 3, 2, 4, 4, 5), nil, []int{4, 5, 6}},
	} {
		if got, e := rights.Assign(x.l, x.uses); !slices.Equal(got, x.want) || (e == api.OK) != (x.lack == nil) {
			t.Errorf("Assign(%v, %v) = %v, %d; want %v", x.l, x.uses, got, e, x.want)
		}
		if set, is := rights.Lack(x.l, x.uses); !slices.Equal(set, x.lack) || is != (x.lack != nil) {
			t.Errorf("Lack(%v, %v) = %v, %v; want %v", x.l, x.uses, set, is, x.lack)
		}
		checkCase(t, x.l, x.uses, impliedAssign)
	}
}

// properties calls check with grants and uses of every small shape, and with many at random.
func properties(seed int64, check func(l []api.Grant, uses []api.Use)) {
	smallCases(3, 2, 2, check)
	smallCases(2, 3, 1, check)
	r := rand.New(rand.NewSource(seed))
	for range 1500 {
		check(anyCase(r, 12, 10))
	}
}

// canAssign reports whether Assign finds an assignment.
func canAssign(l []api.Grant, uses []api.Use) bool {
	_, e := rights.Assign(l, uses)
	return e == api.OK
}

// P8.2

func TestAssignSucceedsWhereNothingLacks(t *testing.T) {
	properties(12, func(l []api.Grant, uses []api.Use) {
		assigned, e := rights.Assign(l, uses)
		set, is := rights.Lack(l, uses)
		if (e == api.OK) == is {
			t.Fatalf("%v, %v: Assign = %v, %d, Lack = %v, %v", l, uses, assigned, e, set, is)
		}
		if e == api.OK && !definedAsAssignment(l, uses, assigned) {
			t.Fatalf("Assign(%v, %v) = %v, which is no assignment", l, uses, assigned)
		}
		if is && (len(set) == 0 || !definedToLack(l, uses, set)) {
			t.Fatalf("Lack(%v, %v) = %v, which lacks nothing", l, uses, set)
		}
		for k := 1; k < len(set); k++ {
			if set[k] <= set[k-1] {
				t.Fatalf("Lack(%v, %v) = %v, which is not ascending", l, uses, set)
			}
		}
	})
}

// P8.3

func TestNoAssignmentIsEarlier(t *testing.T) {
	properties(13, func(l []api.Grant, uses []api.Use) {
		assigned, e := rights.Assign(l, uses)
		if e != api.OK {
			return
		}
		left := slices.Clone(l)
		for k, index := range assigned {
			for _, earlier := range rights.Permits(l, uses[k]) {
				if earlier >= index || left[earlier].Plays == 0 {
					continue
				}
				left[earlier].Plays--
				if canAssign(left, uses[k+1:]) {
					t.Fatalf("Assign(%v, %v) = %v, but the use %d can have the grant %d", l, uses, assigned, k, earlier)
				}
				left[earlier].Plays++
			}
			left[index].Plays--
			if !canAssign(left, uses[k+1:]) {
				t.Fatalf("Assign(%v, %v) = %v, but those after %d cannot be assigned", l, uses, assigned, k)
			}
		}
	})
}

// P8.4

func TestPartsOfALeastCauseCanBeAssigned(t *testing.T) {
	properties(14, func(l []api.Grant, uses []api.Use) {
		set, _ := rights.Lack(l, uses)
		for left := range set {
			var part []api.Use
			for k, use := range set {
				if k != left {
					part = append(part, uses[use])
				}
			}
			if !canAssign(l, part) {
				t.Fatalf("Lack(%v, %v) = %v, of which %d is not needed", l, uses, set, set[left])
			}
		}
	})
}

// P8.6

// checkMore fails unless more, which has what l has, lets the uses be assigned as l does.
func checkMore(t *testing.T, l, more []api.Grant, uses []api.Use) {
	t.Helper()
	if canAssign(l, uses) && !canAssign(more, uses) {
		t.Fatalf("%v can be assigned to %v, but not to %v", uses, l, more)
	}
}

func TestMoreGrantsAndPlaysDoNotHurt(t *testing.T) {
	r := rand.New(rand.NewSource(15))
	properties(16, func(l []api.Grant, uses []api.Use) {
		if len(l) < api.MaxGrants {
			further := grant(anyBits(r, api.AllRegions), r.Intn(3))
			more := append(slices.Clone(l), further)
			checkMore(t, l, more, uses)
			// The assignment that there was is still one, so that the first one is not after it.
			if before, e := rights.Assign(l, uses); e == api.OK {
				if after, _ := rights.Assign(more, uses); slices.Compare(before, after) < 0 {
					t.Fatalf("Assign(%v, %v) = %v, and with %v it is %v", l, uses, before, further, after)
				}
			}
		}
		for k := range l {
			more := slices.Clone(l)
			more[k].Plays = min(more[k].Plays+1+r.Intn(3), api.MaxPlays)
			checkMore(t, l, more, uses)
		}
	})
}

func TestPlaysAndUsesAddUp(t *testing.T) {
	properties(17, func(l []api.Grant, uses []api.Use) {
		assigned, e := rights.Assign(l, uses)
		if e != api.OK {
			return
		}
		sum := len(uses)
		left := rights.Left(l, uses, assigned)
		for index, g := range l {
			sum += left[index] - g.Plays
			if left[index] < 0 || left[index] > g.Plays {
				t.Fatalf("Left(%v, %v, %v) = %v", l, uses, assigned, left)
			}
		}
		if sum != 0 || len(left) != len(l) {
			t.Fatalf("Left(%v, %v, %v) = %v, which adds up to %d", l, uses, assigned, left, sum)
		}
	})
}

// P8.7

func TestItemsDoNotCompete(t *testing.T) {
	r := rand.New(rand.NewSource(18))
	counts := [2]int{}
	for range 4000 {
		l, uses := anyGrants(r, 12, 3), anyUses(r, 10, 3)
		for k := range l {
			l[k].Acts, l[k].Regions, l[k].Window.To = l[k].Acts|api.APlay, 255, 30
		}
		for k := range uses {
			uses[k].Acts = api.APlay
		}
		alone := true
		for item := range 3 {
			var own []api.Use
			for _, u := range uses {
				if u.Item == item {
					own = append(own, u)
				}
			}
			alone = alone && canAssign(l, own)
		}
		if canAssign(l, uses) != alone {
			t.Fatalf("%v, %v: %v together, %v on their own", l, uses, !alone, alone)
		}
		if alone {
			counts[1]++
		} else {
			counts[0]++
		}
	}
	if counts[0] < 300 || counts[1] < 300 {
		t.Errorf("%v of each kind were checked", counts)
	}
}
