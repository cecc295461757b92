package rights_test

import (
	"math"
	"math/rand"
	"slices"
	"testing"

	"aircheck/api"
	"aircheck/rights"
)

// This file has what the tests share: the chapter's words as slow functions, grants and uses to try, and checks against those words.

// definedAsGrants reports whether l is valid in the words of the chapter.
func definedAsGrants(l []api.Grant) bool {
	if len(l) > 12 {
		return false
	}
	for _, g := range l {
		if g.Item < 0 || g.Item > 199 || g.Acts < 1 || g.Acts > 31 || g.Regions < 1 || g.Regions > 255 || g.Plays < 0 || g.Plays > 100 {
			return false
		}
		if g.Window.From < 0 || g.Window.To <= g.Window.From || g.Window.To > 10000000 {
			return false
		}
	}
	return true
}

// definedAsUses reports whether uses is valid in the words of the chapter.
func definedAsUses(uses []api.Use) bool {
	if len(uses) > 10 {
		return false
	}
	for _, u := range uses {
		if u.Item < 0 || u.Item > 199 || u.Acts < 1 || u.Acts > 31 || u.Region < 0 || u.Region > 7 || u.At < 0 || u.At > 9999999 {
			return false
		}
	}
	return true
}

// definedToPermit reports whether the valid g permits the valid u.
func definedToPermit(g api.Grant, u api.Use) bool {
	for _, act := range []int{api.APlay, api.ATalk, api.ACut, api.AStream, api.AShift} {
		if u.Acts&act != 0 && g.Acts&act == 0 {
			return false
		}
	}
	region := 1
	for range u.Region {
		region *= 2
	}
	return g.Item == u.Item && g.Regions&region != 0 && u.At >= g.Window.From && u.At < g.Window.To
}

// definedPermits returns the indices of the grants that permit the valid u.
func definedPermits(l []api.Grant, u api.Use) []int {
	var out []int
	for index, g := range l {
		if definedToPermit(g, u) {
			out = append(out, index)
		}
	}
	return out
}

// definedAsAssignment reports whether assigned is an assignment of the valid uses to the valid l.
func definedAsAssignment(l []api.Grant, uses []api.Use, assigned []int) bool {
	if len(assigned) != len(uses) {
		return false
	}
	for k, index := range assigned {
		if index < 0 || index >= len(l) || !definedToPermit(l[index], uses[k]) {
			return false
		}
	}
	for index, g := range l {
		if count(assigned, index) > g.Plays {
			return false
		}
	}
	return true
}

// count returns how often n is in l.
func count(l []int, n int) int {
	out := 0
	for _, m := range l {
		if m == n {
			out++
		}
	}
	return out
}

// tuples yields, in lexicographic order, the lists of this many numbers below n.
func tuples(size, n int, yield func([]int) bool) {
	l := make([]int, size)
	for yield(l) {
		k := size - 1
		for k >= 0 && l[k] == n-1 {
			l[k] = 0
			k--
		}
		if k < 0 {
			return
		}
		l[k]++
	}
}

// definedAssign returns the first assignment, found by trying all lists of indices, and whether there is one.
func definedAssign(l []api.Grant, uses []api.Use) ([]int, bool) {
	var out []int
	found := len(uses) == 0
	if len(l) == 0 {
		return nil, found
	}
	tuples(len(uses), len(l), func(assigned []int) bool {
		if definedAsAssignment(l, uses, assigned) {
			out, found = slices.Clone(assigned), true
			return false
		}
		return true
	})
	return out, found
}

// definedToLack reports whether the set of uses lacks plays.
func definedToLack(l []api.Grant, uses []api.Use, set []int) bool {
	plays := 0
	for _, g := range l {
		reached := false
		for _, k := range set {
			reached = reached || definedToPermit(g, uses[k])
		}
		if reached {
			plays += g.Plays
		}
	}
	return plays < len(set)
}

// isBefore reports whether the set a has fewer elements than b, or as many and comes first.
func isBefore(a, b []int) bool {
	return len(a) < len(b) || len(a) == len(b) && slices.Compare(a, b) < 0
}

// definedLack returns the set that Lack has to return, of all sets, and whether there is one.
func definedLack(l []api.Grant, uses []api.Use) ([]int, bool) {
	var best []int
	found := false
	for bits := range 1 << len(uses) {
		var set []int
		for k := range uses {
			if bits>>k&1 == 1 {
				set = append(set, k)
			}
		}
		if (!found || isBefore(set, best)) && definedToLack(l, uses, set) {
			best, found = set, true
		}
	}
	return best, found
}

// impliedAssign returns the first assignment, found by Hall's theorem, for lists of which the indices cannot all be tried.
func impliedAssign(l []api.Grant, uses []api.Use) ([]int, bool) {
	left := slices.Clone(l)
	if _, lack := definedLack(left, uses); lack {
		return nil, false
	}
	var out []int
	for k, u := range uses {
		for index, g := range left {
			if g.Plays == 0 || !definedToPermit(g, u) {
				continue
			}
			left[index].Plays--
			if _, lack := definedLack(left, uses[k+1:]); !lack {
				out = append(out, index)
				break
			}
			left[index].Plays++
		}
	}
	return out, true
}

// definedWithdraw returns what Withdraw has to return for valid arguments.
func definedWithdraw(l []api.Grant, item, at int) []api.Grant {
	var out []api.Grant
	for _, g := range l {
		if g.Item == item && g.Window.From >= at {
			continue
		}
		if g.Item == item && g.Window.To > at {
			g.Window.To = at
		}
		out = append(out, g)
	}
	return out
}

// example returns the grants of the chapter's examples.
func example() []api.Grant {
	return []api.Grant{
		{Item: 1, Acts: api.APlay, Regions: 255, Plays: 1, Window: api.Spell{From: 0, To: 100}},
		{Item: 1, Acts: api.APlay | api.ATalk, Regions: 1, Plays: 2, Window: api.Spell{From: 0, To: 50}},
	}
}

// The uses of the chapter's examples.
var (
	a = api.Use{Item: 1, Acts: api.APlay, Region: 0, At: 10}
	b = api.Use{Item: 1, Acts: api.APlay, Region: 1, At: 10}
	c = api.Use{Item: 1, Acts: api.APlay | api.ATalk, Region: 0, At: 60}
)

// grant returns a grant to the item 5, for playing at any time in the regions of these bits.
func grant(regions, plays int) api.Grant {
	return api.Grant{Item: 5, Acts: api.APlay, Regions: regions, Plays: plays, Window: api.Spell{From: 0, To: api.MaxTime}}
}

// inRegions returns uses of the item 5, one in each of the regions.
func inRegions(regions ...int) []api.Use {
	var out []api.Use
	for k, region := range regions {
		out = append(out, api.Use{Item: 5, Acts: api.APlay, Region: region, At: k})
	}
	return out
}

// numbers returns pointers to the numbers of g.
func numbers(g *api.Grant) []*int {
	return []*int{&g.Item, &g.Acts, &g.Regions, &g.Plays, &g.Window.From, &g.Window.To}
}

// numbersOfUse returns pointers to the numbers of u.
func numbersOfUse(u *api.Use) []*int {
	return []*int{&u.Item, &u.Acts, &u.Region, &u.At}
}

// extremes are numbers around every bound of a grant's and a use's fields, and far from them.
var extremes = []int{math.MinInt, math.MinInt + 1, -1 << 62, -1 << 32, -1 << 31, -256, -100, -64, -8, -2, -1, 0, 1, 2, 3, 6, 7, 8, 9, 11, 12, 13, 30, 31, 32, 63, 64, 65, 99, 100, 101, 198, 199, 200, 201, 254, 255, 256, 257, 9999998, 9999999, 10000000, 10000001, 1 << 31, 1 << 32, 1<<32 + 1, 1<<62 - 1, 1 << 62, math.MaxInt - 1, math.MaxInt}

// anyBits returns a number from 1 to all, of which few or many bits are 1.
func anyBits(r *rand.Rand, all int) int {
	n := r.Intn(all + 1)
	switch r.Intn(3) {
	case 0:
		n &= r.Intn(all + 1)
	case 1:
		n |= r.Intn(all + 1)
	}
	return max(n, 1)
}

// anyGrants returns valid grants to a few items, with windows in the first seconds.
func anyGrants(r *rand.Rand, most, items int) []api.Grant {
	var out []api.Grant
	for range r.Intn(most + 1) {
		from := r.Intn(8)
		g := api.Grant{Item: r.Intn(items), Acts: anyBits(r, api.AllActs), Regions: anyBits(r, api.AllRegions), Plays: r.Intn(4), Window: api.Spell{From: from, To: from + 1 + r.Intn(12)}}
		if r.Intn(20) == 0 {
			g.Plays = 100
		}
		out = append(out, g)
	}
	return out
}

// anyUses returns valid uses of a few items in the first seconds.
func anyUses(r *rand.Rand, most, items int) []api.Use {
	var out []api.Use
	for range r.Intn(most + 1) {
		acts := 1 << r.Intn(5)
		if r.Intn(4) == 0 {
			acts |= 1 << r.Intn(5)
		}
		out = append(out, api.Use{Item: r.Intn(items), Acts: acts, Region: r.Intn(8), At: r.Intn(16)})
	}
	return out
}

// anyCase returns grants and uses of at most these numbers. Sometimes the uses are like each other, so that they compete.
func anyCase(r *rand.Rand, grants, uses int) ([]api.Grant, []api.Use) {
	items := 1 + r.Intn(3)
	l, us := anyGrants(r, grants, items), anyUses(r, uses, items)
	if r.Intn(2) == 0 {
		for k := range us {
			us[k].Acts = api.APlay
		}
		for k := range l {
			l[k].Acts |= api.APlay
			l[k].Window.To += 20
			l[k].Window.From = 0
		}
	}
	return l, us
}

// checkCase fails unless, for valid grants and uses, Valid, ValidUses, Permits, Assign, Lack and Left return what the chapter says. The first assignment is looked for by assign.
func checkCase(t testing.TB, l []api.Grant, uses []api.Use, assign func([]api.Grant, []api.Use) ([]int, bool)) {
	t.Helper()
	if !rights.Valid(l) || !rights.ValidUses(uses) {
		t.Fatalf("Valid(%v) = %v, ValidUses(%v) = %v", l, rights.Valid(l), uses, rights.ValidUses(uses))
	}
	for _, u := range uses {
		if got := rights.Permits(l, u); !slices.Equal(got, definedPermits(l, u)) {
			t.Fatalf("Permits(%v, %v) = %v", l, u, got)
		}
	}
	want, ok := assign(l, uses)
	got, e := rights.Assign(l, uses)
	if !slices.Equal(got, want) || (e == api.OK) != ok || e != api.OK && e != api.ErrRights {
		t.Fatalf("Assign(%v, %v) = %v, %d; want %v, %v", l, uses, got, e, want, ok)
	}
	wantLack, lacks := definedLack(l, uses)
	if set, is := rights.Lack(l, uses); !slices.Equal(set, wantLack) || is != lacks {
		t.Fatalf("Lack(%v, %v) = %v, %v; want %v, %v", l, uses, set, is, wantLack, lacks)
	}
	if ok {
		checkLeft(t, l, uses, got)
	}
}

// checkLeft fails unless Left returns what the chapter says, whatever assigned is.
func checkLeft(t testing.TB, l []api.Grant, uses []api.Use, assigned []int) {
	t.Helper()
	var want []int
	if definedAsGrants(l) && definedAsUses(uses) && definedAsAssignment(l, uses, assigned) {
		for index, g := range l {
			want = append(want, g.Plays-count(assigned, index))
		}
	}
	if got := rights.Left(l, uses, assigned); !slices.Equal(got, want) {
		t.Fatalf("Left(%v, %v, %v) = %v; want %v", l, uses, assigned, got, want)
	}
}

// checkWithdraw fails unless Withdraw returns what the chapter says, for a valid l.
func checkWithdraw(t testing.TB, l []api.Grant, item, at int) {
	t.Helper()
	var want []api.Grant
	if 0 <= item && item <= 199 && 0 <= at && at <= 10000000 {
		want = definedWithdraw(l, item, at)
	}
	got := rights.Withdraw(l, item, at)
	if !slices.Equal(got, want) || !rights.Valid(got) {
		t.Fatalf("Withdraw(%v, %d, %d) = %v; want %v", l, item, at, got, want)
	}
}

// refusesGrants fails unless all functions refuse l.
func refusesGrants(t testing.TB, l []api.Grant) {
	t.Helper()
	if rights.Valid(l) {
		t.Errorf("%v is valid", l)
	}
	for _, u := range []api.Use{a, {Item: 5, Acts: api.APlay}} {
		if got := rights.Permits(l, u); len(got) != 0 {
			t.Errorf("Permits(%v, %v) = %v", l, u, got)
		}
		refusesCase(t, l, []api.Use{u})
	}
	refusesCase(t, l, nil)
	for _, at := range []int{0, 30, api.MaxTime} {
		for _, item := range []int{0, 1, 5} {
			if got := rights.Withdraw(l, item, at); len(got) != 0 {
				t.Errorf("Withdraw(%v, %d, %d) = %v", l, item, at, got)
			}
		}
	}
}

// refusesUses fails unless all functions refuse uses.
func refusesUses(t testing.TB, uses []api.Use) {
	t.Helper()
	if rights.ValidUses(uses) {
		t.Errorf("%v are valid uses", uses)
	}
	for _, u := range uses[:min(len(uses), 20)] {
		if got := rights.Permits(example(), u); len(got) != 0 && !definedAsUses([]api.Use{u}) {
			t.Errorf("Permits(%v) = %v", u, got)
		}
	}
	refusesCase(t, example(), uses)
	refusesCase(t, nil, uses)
	refusesCase(t, slices.Repeat([]api.Grant{{Item: 1, Acts: 31, Regions: 255, Plays: 100, Window: api.Spell{From: 0, To: api.MaxTime}}}, 12), uses)
}

// refusesCase fails unless Assign, Lack and Left refuse the lists.
func refusesCase(t testing.TB, l []api.Grant, uses []api.Use) {
	t.Helper()
	if got, e := rights.Assign(l, uses); len(got) != 0 || e != api.ErrRights {
		t.Errorf("Assign(%v, %v) = %v, %d", l, uses, got, e)
	}
	if set, is := rights.Lack(l, uses); len(set) != 0 || is {
		t.Errorf("Lack(%v, %v) = %v, %v", l, uses, set, is)
	}
	for _, assigned := range [][]int{nil, {0}, {1}, make([]int, len(uses))} {
		if got := rights.Left(l, uses, assigned); len(got) != 0 {
			t.Errorf("Left(%v, %v, %v) = %v", l, uses, assigned, got)
		}
	}
}
