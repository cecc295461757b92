package format_test

import (
	"math"
	"math/rand"
	"slices"
	"testing"

	"aircheck/api"
	"aircheck/format"
)

// songs returns slots of these lengths and Joins.
func songs(numbers ...[3]int) []api.Slot {
	var l []api.Slot
	for _, x := range numbers {
		l = append(l, api.Slot{Kind: api.KSong, Least: x[0], Most: x[1], Join: x[2]})
	}
	return l
}

// fillings calls use with each filling of the slots l: with the lengths that it gives them.
func fillings(l []api.Slot, use func(lengths []int)) {
	var fill func(lengths []int, at int)
	fill = func(lengths []int, at int) {
		if len(lengths) == len(l) {
			if at == hour {
				use(lengths)
			}
			return
		}
		s := l[len(lengths)]
		if s.Join != -1 && s.Join != at {
			return
		}
		for length := s.Least; length <= s.Most; length++ {
			fill(append(slices.Clone(lengths), length), at+length)
		}
	}
	fill(nil, 0)
}

// P9.1: Reach

func TestReachOfExamples(t *testing.T) {
	for _, c := range []struct {
		l    []api.Slot
		want [][2]int
	}{
		{songs([3]int{180, 180, -1}, [3]int{150, 300, -1}, [3]int{60, 3200, -1}), [][2]int{{0, 0}, {180, 180}, {400, 480}}},
		{songs([3]int{180, 180, -1}, [3]int{150, 300, -1}, [3]int{60, 3200, 1800}), nil},
		{songs([3]int{180, 180, -1}, [3]int{150, 300, -1}, [3]int{60, 3200, 399}), nil},
		{songs([3]int{180, 180, -1}, [3]int{150, 300, -1}, [3]int{60, 3200, 400}), [][2]int{{0, 0}, {180, 180}, {400, 400}}},
		{songs([3]int{180, 180, -1}, [3]int{150, 300, -1}, [3]int{60, 3200, 480}), [][2]int{{0, 0}, {180, 180}, {480, 480}}},
		{songs([3]int{180, 180, -1}, [3]int{150, 300, -1}, [3]int{60, 3200, 481}), nil},
		{songs([3]int{1, 3600, -1}), [][2]int{{0, 0}}},
		{songs([3]int{1, 3600, 0}), [][2]int{{0, 0}}},
		{songs([3]int{3600, 3600, -1}), [][2]int{{0, 0}}},
		{songs([3]int{1, 3600, 1}), nil},
		{songs([3]int{1, 3599, -1}), nil},
		{songs([3]int{1, 3600, -1}, [3]int{1, 3600, -1}), [][2]int{{0, 0}, {1, 3599}}},
		{songs([3]int{1, 3600, -1}, [3]int{1, 3600, 3599}), [][2]int{{0, 0}, {3599, 3599}}},
		{songs([3]int{1, 3600, -1}, [3]int{1, 3600, 0}), nil},
		{songs([3]int{3600, 3600, -1}, [3]int{1, 1, -1}), nil},
		{songs([3]int{3599, 3600, -1}, [3]int{1, 1, -1}), [][2]int{{0, 0}, {3599, 3599}}},
		// A join decides about what comes before it, and about what comes after it.
		{songs([3]int{100, 1000, -1}, [3]int{100, 1000, -1}, [3]int{500, 2500, 1500}, [3]int{500, 700, -1}), [][2]int{{0, 0}, {500, 1000}, {1500, 1500}, {2900, 3100}}},
		{songs([3]int{100, 1000, -1}, [3]int{100, 1000, 300}, [3]int{100, 1000, 400}, [3]int{100, 3600, -1}), [][2]int{{0, 0}, {300, 300}, {400, 400}, {500, 1400}}},
		// A join later than another one, but earlier in the hour.
		{songs([3]int{100, 1000, -1}, [3]int{100, 1000, 400}, [3]int{100, 3600, 300}), nil},
	} {
		if a := format.Reach(c.l); !slices.Equal(a, c.want) {
			t.Errorf("Reach(%v) = %v; want %v", c.l, a, c.want)
		}
		checkReach(t, c.l)
	}
}

func TestReachOfNoValidSlots(t *testing.T) {
	good := api.Slot{Kind: 1, Least: 1, Most: 3600, Join: -1}
	for i, s := range []api.Slot{
		{}, {Kind: 0, Least: 1, Most: 3600, Join: -1}, {Kind: 6, Least: 1, Most: 3600, Join: -1}, {Kind: -1, Least: 1, Most: 3600, Join: -1}, {Kind: math.MaxInt, Least: 1, Most: 3600, Join: -1},
		{Kind: 1, Least: 0, Most: 3600, Join: -1}, {Kind: 1, Least: -1, Most: 3600, Join: -1}, {Kind: 1, Least: 1, Most: 3601, Join: -1}, {Kind: 1, Least: 1801, Most: 1800, Join: -1}, {Kind: 1, Least: 3601, Most: 3601, Join: -1}, {Kind: 1, Least: math.MinInt, Most: math.MaxInt, Join: -1}, {Kind: 1, Least: 1, Most: math.MaxInt, Join: -1}, {Kind: 1, Least: 0, Most: 0, Join: -1},
		{Kind: 1, Least: 1, Most: 3600, Join: -2}, {Kind: 1, Least: 1, Most: 3600, Join: 3600}, {Kind: 1, Least: 1, Most: 3600, Join: math.MaxInt}, {Kind: 1, Least: 1, Most: 3600, Join: math.MinInt},
	} {
		for _, l := range [][]api.Slot{{s}, {good, s}, {s, good}, {good, s, good}} {
			if a := format.Reach(l); definedAsSlots(l) || len(a) != 0 {
				t.Errorf("%d: Reach(%v) = %v", i, l, a)
			}
		}
	}
	for _, l := range [][]api.Slot{nil, {}, slices.Repeat([]api.Slot{good}, 61), slices.Repeat([]api.Slot{good}, 1000000)} {
		if a := format.Reach(l); len(a) != 0 {
			t.Errorf("Reach of %d slots = %v", len(l), a)
		}
	}
	for _, count := range []int{59, 60} {
		l := slices.Repeat([]api.Slot{good}, count)
		if !checkReach(t, l) || len(format.Reach(l)) != count {
			t.Errorf("Reach of %d slots is empty", count)
		}
	}
	for kind := 1; kind <= 5; kind++ {
		s := good
		s.Kind = kind
		checkReach(t, []api.Slot{s, s})
	}
}

// P9.4 (Theorem): exactly

// TestReachIsWhatFillingsHave tests slots with so few lengths that all their fillings can be tried.
func TestReachIsWhatFillingsHave(t *testing.T) {
	r := rand.New(rand.NewSource(97))
	filled := 0
	for range 3000 {
		l := anySlots(r, 1+r.Intn(5))
		for i := range l {
			l[i].Least = max(l[i].Least, l[i].Most-r.Intn(6))
			if r.Intn(9) == 0 {
				l[i].Join = min(max(l[i].Join+r.Intn(7)-3, -1), 3599)
			}
		}
		// The lengths are moved so that they come near to a whole hour.
		if s := &l[r.Intn(len(l))]; len(l) > 1 {
			rest := hour
			for _, other := range l {
				rest -= other.Most
			}
			if rest += r.Intn(13); s.Least+rest >= 1 && s.Most+rest <= hour {
				s.Least, s.Most = s.Least+rest, s.Most+rest
			}
		}
		begins := make([]seconds, len(l))
		found := false
		fillings(l, func(lengths []int) {
			at := 0
			for i, length := range lengths {
				begins[i][at] = true
				at += length
			}
			found = true
		})
		a := format.Reach(l)
		if (len(a) == len(l)) != found || len(a) != 0 && !found {
			t.Fatalf("Reach(%v) = %v; a filling: %v", l, a, found)
		}
		for i, x := range a {
			for at, is := range begins[i] {
				if is != (x[0] <= at && at <= x[1]) {
					t.Fatalf("Reach(%v) = %v; %d at %d: %v", l, a, i, at, is)
				}
			}
		}
		if found {
			filled++
		}
	}
	if filled < 300 || filled > 2700 {
		t.Errorf("%d had a filling", filled)
	}
}

// TestReachHasNoHoles tests slots of all numbers and lengths, second by second.
func TestReachHasNoHoles(t *testing.T) {
	r := rand.New(rand.NewSource(98))
	filled := 0
	for range 1500 {
		l := anySlots(r, 1+r.Intn(1+r.Intn(60)))
		if r.Intn(3) == 0 {
			s := &l[r.Intn(len(l))]
			s.Join = r.Intn(hour+1) - 1
		}
		if !checkReach(t, l) {
			continue
		}
		filled++
		begins := definedBegins(l)
		for i, x := range format.Reach(l) {
			for at, is := range begins[i] {
				if is != (x[0] <= at && at <= x[1]) {
					t.Fatalf("Reach(%v): %v; %d at %d: %v", l, x, i, at, is)
				}
			}
		}
	}
	if filled < 300 || filled > 1450 {
		t.Errorf("%d had a filling", filled)
	}
}

// TestReachOfAllPairs tests two slots with all sorts of lengths around half an hour.
func TestReachOfAllPairs(t *testing.T) {
	for code := range 4 * 4 * 4 * 4 * 5 {
		n := func(m int) int { x := code % m; code /= m; return x }
		least, other := 1798+n(4), 1798+n(4)
		a, b := [3]int{least, least + n(4), -1}, [3]int{other, other + n(4), []int{-1, 1798, 1800, 1801, 1805}[n(5)]}
		checkReach(t, songs(a, b))
		checkReach(t, songs(b, a))
	}
}

// P9.5 (Theorem): every way leads on

func TestEveryWayLeadsOn(t *testing.T) {
	r := rand.New(rand.NewSource(99))
	for range 1000 {
		l := anySlots(r, 1+r.Intn(1+r.Intn(60)))
		reach := format.Reach(l)
		if len(reach) != len(l) {
			t.Fatalf("Reach(%v) = %v", l, reach)
		}
		next := append(slices.Clone(reach), [2]int{hour, hour})
		// From each second of a slot, some length leads to a second of the next one.
		for i, s := range l {
			for at := reach[i][0]; at <= reach[i][1]; at++ {
				if max(at+s.Least, next[i+1][0]) > min(at+s.Most, next[i+1][1]) {
					t.Fatalf("Reach(%v) = %v: %d has no length at %d", l, reach, i, at)
				}
			}
		}
		for range 5 {
			at := 0
			for i, s := range l {
				if at < reach[i][0] || at > reach[i][1] || s.Join != -1 && at != s.Join {
					t.Fatalf("Reach(%v) = %v: %d begins at %d", l, reach, i, at)
				}
				least, most := max(at+s.Least, next[i+1][0]), min(at+s.Most, next[i+1][1])
				at = []int{least, most, least + r.Intn(most-least+1)}[r.Intn(3)]
			}
			if at != hour {
				t.Fatalf("Reach(%v) = %v: the end is at %d", l, reach, at)
			}
		}
	}
}

// P9.1: Sound and Why

func TestWhyOfExamples(t *testing.T) {
	whole := slot(1, 600, 3600)
	if c, is := format.Why(example()); c != (api.Cause{Region: 0, Hour: 0, Slot: 3}) || !is || format.Sound(example()) {
		t.Errorf("%v, %v", c, is)
	}
	for i, c := range []struct {
		l    []api.Part
		want api.Cause
	}{
		// too short, too long
		{[]api.Part{slot(1, 600, 3599)}, api.Cause{Slot: 1}},
		{[]api.Part{slot(1, 3600, 3600), slot(1, 1, 1)}, api.Cause{Slot: 2}},
		{[]api.Part{whole, whole, slot(2, 2401, 3600)}, api.Cause{Slot: 3}},
		// no slots: everywhere, in one region, at one hour
		{[]api.Part{join(0)}, api.Cause{Slot: 0}},
		{[]api.Part{join(5), repeat(6, 1), join(7)}, api.Cause{Slot: 0}},
		{[]api.Part{where(247, allHours, 1), whole}, api.Cause{Region: 3}},
		{[]api.Part{where(255, allHours-1<<17, 1), whole}, api.Cause{Hour: 17}},
		// the region comes before the hour
		{[]api.Part{where(255, allHours, 1), whole, where(4, 1<<20, 1), whole, where(8, 1<<3, 1), slot(1, 3600, 3600)}, api.Cause{Region: 3, Hour: 3, Slot: 2}},
		{[]api.Part{whole, where(4, 1<<20, 1), slot(1, 3600, 3600), where(8, 1<<3, 1), slot(1, 3600, 3600)}, api.Cause{Region: 2, Hour: 20, Slot: 2}},
		{[]api.Part{whole, where(4, 1<<20+1<<21, 1), slot(1, 3600, 3600)}, api.Cause{Region: 2, Hour: 20, Slot: 2}},
		{[]api.Part{where(128, 1<<23, 1), slot(2, 3001, 3600), whole}, api.Cause{Region: 7, Hour: 23, Slot: 2}},
		// joins that come too early, and too late, and the first one of several
		{[]api.Part{slot(2, 100, 200), join(99), whole}, api.Cause{Slot: 1}},
		{[]api.Part{slot(2, 100, 200), join(201), whole}, api.Cause{Slot: 1}},
		{[]api.Part{join(1), whole}, api.Cause{Slot: 0}},
		{[]api.Part{slot(2, 100, 200), join(150), slot(2, 100, 200), join(249), whole}, api.Cause{Slot: 2}},
		{[]api.Part{slot(2, 100, 200), join(150), slot(2, 100, 200), join(351), whole}, api.Cause{Slot: 2}},
		{[]api.Part{slot(2, 100, 200), join(99), slot(2, 100, 200), join(5), whole}, api.Cause{Slot: 1}},
		{[]api.Part{slot(2, 100, 200), slot(2, 100, 200), join(401), whole, join(5), slot(1, 3600, 3600)}, api.Cause{Slot: 2}},
		// a join that can be met, after which the end cannot be
		{[]api.Part{slot(2, 100, 200), join(150), slot(2, 100, 200)}, api.Cause{Slot: 2}},
		{[]api.Part{slot(2, 100, 3600), join(3599), slot(2, 2, 200)}, api.Cause{Slot: 2}},
		// a slot that would begin after the hour, whatever comes before it
		{[]api.Part{slot(1, 3600, 3600), slot(1, 3600, 3600), join(3599), whole}, api.Cause{Slot: 2}},
		// too many slots, also if another cause were there before them, or after them
		{[]api.Part{repeat(6, 3), repeat(5, 2), slot(1, 1, 60), slot(2, 1, 60), whole}, api.Cause{Slot: 60}},
		{[]api.Part{join(9), repeat(6, 3), repeat(5, 2), slot(1, 1, 60), slot(2, 1, 60), whole}, api.Cause{Slot: 60}},
		{[]api.Part{repeat(6, 3), repeat(5, 2), slot(1, 1, 60), slot(2, 1, 60), where(16, 32, 1), slot(1, 1, 1)}, api.Cause{Region: 4, Hour: 5, Slot: 60}},
		// sixty slots that end too early, and one of them at a wrong join
		{[]api.Part{repeat(6, 3), repeat(5, 2), slot(1, 1, 59), slot(2, 1, 60)}, api.Cause{Slot: 60}},
		{[]api.Part{repeat(6, 4), repeat(5, 3), slot(1, 1, 60), join(3), slot(2, 1, 60)}, api.Cause{Slot: 3}},
	} {
		if x, is := format.Why(c.l); x != c.want || !is || format.Sound(c.l) {
			t.Errorf("%d: %v, %v; want %v", i, x, is, c.want)
		}
		checkClock(t, c.l)
	}
}

func TestSoundClocks(t *testing.T) {
	for _, l := range [][]api.Part{
		{slot(1, 1, 3600)},
		{slot(1, 3600, 3600)},
		{join(0), slot(1, 600, 3600), join(3599)},
		{repeat(6, 3), repeat(5, 2), slot(1, 1, 60), slot(2, 1, 60)},
		{where(15, allHours, 1), slot(1, 3600, 3600), where(240, allHours, 2), slot(1, 1, 3600), slot(2, 1, 3600)},
		{where(255, 0xfff, 1), slot(1, 3600, 3600), where(255, 0xfff000, 1), slot(2, 3600, 3600)},
		{slot(5, 180, 180), repeat(2, 3), slot(1, 150, 300), where(10, 448, 1), slot(2, 30, 60), join(600), slot(3, 60, 3000)},
	} {
		if c, is := format.Why(l); c != (api.Cause{}) || is || !format.Sound(l) {
			t.Errorf("Why(%v) = %v, %v", l, c, is)
		}
		checkClock(t, l)
	}
}

// P9.6 (Theorem): joins

func TestJoinsOfSoundClocks(t *testing.T) {
	r := rand.New(rand.NewSource(100))
	joins := 0
	for range 200 {
		l := soundClock(r)
		if !format.Sound(l) {
			t.Fatalf("%v is not sound", l)
		}
		for region := range 8 {
			for h := range 24 {
				slots, e := format.Expand(l, region, h)
				if e != api.OK || len(slots) == 0 {
					t.Fatalf("Expand(%v, %d, %d) = %v, %d", l, region, h, slots, e)
				}
				reach := format.Reach(slots)
				if len(reach) != len(slots) {
					t.Fatalf("Reach(%v) = %v", slots, reach)
				}
				for i, s := range slots {
					if s.Join != -1 {
						joins++
						if reach[i] != [2]int{s.Join, s.Join} {
							t.Fatalf("Reach(%v) = %v", slots, reach)
						}
					}
				}
			}
		}
	}
	if joins < 1000 {
		t.Errorf("only %d joins", joins)
	}
}

// TestAJoinIsMetInAllRegionsAtOnce tests a slot that comes after other ones in each region.
func TestAJoinIsMetInAllRegionsAtOnce(t *testing.T) {
	r := rand.New(rand.NewSource(101))
	sound := 0
	for range 300 {
		second := 1 + r.Intn(hour-1)
		var l []api.Part
		for region := range 8 {
			l = append(l, where(1<<region, allHours, 2), slot(1, 1, 1+r.Intn(hour)), slot(2, 1, 1+r.Intn(hour)))
		}
		l = append(l, join(second), slot(5, 1, hour))
		if !checkClock(t, l) {
			continue
		}
		sound++
		for region := range 8 {
			slots, _ := format.Expand(l, region, r.Intn(24))
			if reach := format.Reach(slots); len(reach) != 3 || reach[2] != [2]int{second, second} {
				t.Fatalf("Reach(%v) = %v", slots, reach)
			}
		}
	}
	if sound < 30 {
		t.Errorf("only %d were sound", sound)
	}
}

// P9.7: causes

// spoiled returns a sound clock after some changes.
func spoiled(r *rand.Rand) []api.Part {
	l := soundClock(r)
	for range r.Intn(3) {
		switch p := &l[r.Intn(len(l))]; {
		case p.Kind == 1 && r.Intn(2) == 0:
			p.B = 1 + r.Intn(p.C)
		case p.Kind == 1:
			p.C = p.B + r.Intn(p.C-p.B+1)
		case p.Kind == 2:
			p.A = r.Intn(hour)
		case p.Kind == 4 && r.Intn(2) == 0:
			p.A = 1 + r.Intn(255)
		case p.Kind == 4:
			p.B = 1 + r.Intn(allHours)
		}
	}
	return l
}

func TestCausesAreTooEarlyOrTooLate(t *testing.T) {
	r := rand.New(rand.NewSource(102))
	sound := 0
	for range 800 {
		l := spoiled(r)
		c, found := format.Why(l)
		if found == checkClock(t, l) || found == format.Sound(l) {
			t.Fatalf("Why(%v) = %v, %v", l, c, found)
		}
		if !found {
			sound++
			continue
		}
		slots, e := format.Expand(l, c.Region, c.Hour)
		if e != api.OK {
			if e != api.ErrFormat || c.Slot != 60 || len(definedSlots(l, c.Region, c.Hour)) <= 60 {
				t.Fatalf("Why(%v) = %v; Expand: %d", l, c, e)
			}
			continue
		}
		at := hour
		if c.Slot < len(slots) {
			at = slots[c.Slot].Join
		}
		ends := definedEnds(slots)[c.Slot]
		early, late := 0, 0
		for end, is := range ends {
			if is && end == at {
				t.Fatalf("Why(%v) = %v; but it can be met", l, c)
			}
			if is && end < at {
				early++
			}
			if is && end > at {
				late++
			}
		}
		if (early == 0) == (late == 0) {
			t.Fatalf("Why(%v) = %v; %d seconds are too early, %d too late", l, c, early, late)
		}
	}
	if sound < 80 || sound > 720 {
		t.Errorf("%d were sound", sound)
	}
}

// P9.8: slots that may be shorter or longer

func TestMoreLengthsLeaveMoreWays(t *testing.T) {
	r := rand.New(rand.NewSource(103))
	grown := 0
	for range 1500 {
		l := anySlots(r, 1+r.Intn(1+r.Intn(60)))
		before := format.Reach(l)
		for range 1 + r.Intn(4) {
			s := &l[r.Intn(len(l))]
			s.Least -= r.Intn(s.Least) / (1 + r.Intn(20))
			s.Most += r.Intn(hour+1-s.Most) / (1 + r.Intn(20))
		}
		after := format.Reach(l)
		if len(before) != len(l) || len(after) != len(l) {
			t.Fatalf("Reach(%v) = %v, and before %v", l, after, before)
		}
		for i := range l {
			if after[i][0] > before[i][0] || after[i][1] < before[i][1] {
				t.Fatalf("Reach(%v) = %v, and before %v", l, after, before)
			}
		}
		if !slices.Equal(before, after) {
			grown++
		}
		checkReach(t, l)
	}
	if grown < 500 {
		t.Errorf("only %d grew", grown)
	}
}
