package clock

import (
	"math"
	"math/rand"
	"slices"
	"testing"

	"aircheck/api"
)

// in returns in how many of the spells the second is.
func in(l []api.Spell, second int) int {
	n := 0
	for _, s := range l {
		if s.From <= second && second < s.To {
			n++
		}
	}
	return n
}

// definedAgree returns what the chapter says of Agree, for spells whose seconds are from low up to, but not including, high.
func definedAgree(l []api.Spell, low, high int) (api.Spell, int) {
	most := 0
	for second := low; second < high; second++ {
		most = max(most, in(l, second))
	}
	if most == 0 {
		return api.Spell{}, 0
	}
	var s api.Spell
	for s.From = low; in(l, s.From) < most; s.From++ {
	}
	for s.To = s.From; in(l, s.To) == most; s.To++ {
	}
	return s, most
}

// anySpells returns spells whose ends are from -10 to 30; some have no seconds.
func anySpells(r *rand.Rand, most int) []api.Spell {
	var l []api.Spell
	for range r.Intn(most + 1) {
		s := api.Spell{From: r.Intn(41) - 10, To: r.Intn(41) - 10}
		if s.From > s.To && r.Intn(3) > 0 {
			s.From, s.To = s.To, s.From
		}
		l = append(l, s)
	}
	return l
}

// P5.1: Agree

func TestAgree(t *testing.T) {
	least, greatest := math.MinInt, math.MaxInt
	for _, c := range []struct {
		l     []api.Spell
		want  api.Spell
		count int
	}{
		{nil, api.Spell{}, 0},
		{[]api.Spell{}, api.Spell{}, 0},
		{[]api.Spell{{}, {From: 3, To: 3}, {From: 5, To: 1}}, api.Spell{}, 0},
		{[]api.Spell{{From: greatest, To: greatest}, {From: least, To: least}, {From: greatest, To: least}}, api.Spell{}, 0},
		{[]api.Spell{{From: 0, To: 10}, {From: 5, To: 15}, {From: 8, To: 9}, {From: 12, To: 20}}, api.Spell{From: 8, To: 9}, 3},
		{[]api.Spell{{From: 0, To: 1}}, api.Spell{From: 0, To: 1}, 1},
		{[]api.Spell{{From: 4, To: 9}, {From: 4, To: 9}, {From: 4, To: 9}}, api.Spell{From: 4, To: 9}, 3},
		{[]api.Spell{{From: 4, To: 9}, {From: 9, To: 4}}, api.Spell{From: 4, To: 9}, 1},
		{[]api.Spell{{From: 10, To: 20}, {From: 0, To: 10}}, api.Spell{From: 0, To: 20}, 1},
		{[]api.Spell{{From: 0, To: 4}, {From: 4, To: 5}, {From: 5, To: 6}, {From: 7, To: 9}}, api.Spell{From: 0, To: 6}, 1},
		{[]api.Spell{{From: 0, To: 4}, {From: 2, To: 6}, {From: 4, To: 6}, {From: 8, To: 9}, {From: 8, To: 9}}, api.Spell{From: 2, To: 6}, 2},
		{[]api.Spell{{From: 0, To: 2}, {From: 1, To: 3}, {From: 5, To: 9}, {From: 6, To: 8}, {From: 6, To: 7}}, api.Spell{From: 6, To: 7}, 3},
		{[]api.Spell{{From: 8, To: 9}, {From: 8, To: 9}, {From: 1, To: 3}, {From: 2, To: 5}}, api.Spell{From: 2, To: 3}, 2},
		{[]api.Spell{{From: 0, To: 10}, {From: 3, To: 5}, {From: 5, To: 7}}, api.Spell{From: 3, To: 7}, 2},
		{[]api.Spell{{From: 0, To: 10}, {From: 3, To: 5}, {From: 6, To: 7}}, api.Spell{From: 3, To: 5}, 2},
		{[]api.Spell{{From: -5, To: 4}, {From: 6, To: 7}}, api.Spell{From: -5, To: 4}, 1},
		{[]api.Spell{{From: least, To: greatest}}, api.Spell{From: least, To: greatest}, 1},
		{[]api.Spell{{From: least, To: 0}, {From: 0, To: greatest}}, api.Spell{From: least, To: greatest}, 1},
		{[]api.Spell{{From: least, To: least + 1}, {From: greatest - 1, To: greatest}, {From: greatest - 2, To: greatest}}, api.Spell{From: greatest - 1, To: greatest}, 2},
		{[]api.Spell{{From: least, To: greatest}, {From: least, To: least + 2}, {From: least + 1, To: 0}}, api.Spell{From: least + 1, To: least + 2}, 3},
	} {
		if s, n := Agree(c.l); s != c.want || n != c.count {
			t.Errorf("Agree(%v) = %v, %d; want %v, %d", c.l, s, n, c.want, c.count)
		}
	}
}

func TestAgreeIsAsDefined(t *testing.T) {
	r := rand.New(rand.NewSource(30))
	for range 20000 {
		l := anySpells(r, 12)
		want, count := definedAgree(l, -10, 30)
		if s, n := Agree(l); s != want || n != count {
			t.Fatalf("Agree(%v) = %v, %d; want %v, %d", l, s, n, want, count)
		}
	}
}

func TestAllSmallLists(t *testing.T) {
	var spells []api.Spell
	for from := range 4 {
		for to := range 4 {
			spells = append(spells, api.Spell{From: from, To: to})
		}
	}
	for _, a := range spells {
		for _, b := range spells {
			for _, c := range spells {
				l := []api.Spell{a, b, c}
				want, count := definedAgree(l, 0, 3)
				if s, n := Agree(l); s != want || n != count {
					t.Errorf("Agree(%v) = %v, %d; want %v, %d", l, s, n, want, count)
				}
			}
		}
	}
}

func TestAgreeOfLongLists(t *testing.T) {
	r := rand.New(rand.NewSource(31))
	const size = 100000
	var stairs, apart []api.Spell
	for i := range size {
		stairs = append(stairs, api.Spell{From: i, To: 2*size - i})
		apart = append(apart, api.Spell{From: 3 * i, To: 3*i + 2})
	}
	for _, c := range []struct {
		l     []api.Spell
		want  api.Spell
		count int
	}{
		{stairs, api.Spell{From: size - 1, To: size + 1}, size},
		{apart, api.Spell{From: 0, To: 2}, 1},
		{append(apart, stairs...), api.Spell{From: size - 1, To: size + 1}, size + 1},
		{make([]api.Spell, size), api.Spell{}, 0},
	} {
		r.Shuffle(len(c.l), func(i, j int) { c.l[i], c.l[j] = c.l[j], c.l[i] })
		if s, n := Agree(c.l); s != c.want || n != c.count {
			t.Errorf("Agree of %d spells = %v, %d; want %v, %d", len(c.l), s, n, c.want, c.count)
		}
	}
}

// P5.6

func TestNoSecondIsInMoreSpells(t *testing.T) {
	r := rand.New(rand.NewSource(32))
	for range 5000 {
		l := anySpells(r, 30)
		s, n := Agree(l)
		if n == 0 && s != (api.Spell{}) || n > 0 && s.From >= s.To {
			t.Fatalf("Agree(%v) = %v, %d", l, s, n)
		}
		for second := -12; second <= 32; second++ {
			count := in(l, second)
			switch {
			case count > n:
				t.Fatalf("Agree(%v) = %v, %d, but %d is in %d", l, s, n, second, count)
			case s.From <= second && second < s.To && count != n:
				t.Fatalf("Agree(%v) = %v, %d, but %d is in %d", l, s, n, second, count)
			case n > 0 && (second < s.From || second == s.To) && count == n:
				t.Fatalf("Agree(%v) = %v, %d, but %d is in as many", l, s, n, second)
			}
		}
	}
}

func TestAgreeDoesNotDependOnTheOrder(t *testing.T) {
	r := rand.New(rand.NewSource(33))
	for range 3000 {
		l := anySpells(r, 15)
		s, n := Agree(l)
		other := append(slices.Clone(l), api.Spell{From: r.Intn(9), To: -r.Intn(9)}, api.Spell{From: 4, To: 4})
		r.Shuffle(len(other), func(i, j int) { other[i], other[j] = other[j], other[i] })
		if s2, n2 := Agree(other); s2 != s || n2 != n {
			t.Errorf("Agree(%v) = %v, %d, but Agree(%v) = %v, %d", l, s, n, other, s2, n2)
		}
	}
}

// R3

func TestSpellsAreNotChanged(t *testing.T) {
	r := rand.New(rand.NewSource(34))
	for range 500 {
		spare := append(anySpells(r, 10), api.Spell{From: 70, To: 90}, api.Spell{From: 70, To: 90}, api.Spell{From: 70, To: 90})
		all := slices.Clone(spare)
		Agree(spare[:len(spare)-3])
		if !slices.Equal(spare, all) {
			t.Fatalf("%v became %v", all, spare)
		}
	}
}
