package format_test

import (
	"math"
	"math/rand"
	"slices"
	"testing"

	"aircheck/api"
	"aircheck/format"
)

// clocks returns valid clocks of all sorts: on the edges of the limits, and with parts in each other.
func clocks() [][]api.Part {
	forty := make([]api.Part, 40)
	for i := range forty {
		forty[i] = join(i)
	}
	song := slot(1, 5, 9)
	return [][]api.Part{
		example(),
		{song},
		{slot(1, 1, 3600)},
		{slot(5, 3600, 3600)},
		{slot(2, 1, 1)},
		{slot(3, 3599, 3600)},
		{slot(4, 1, 2)},
		{join(0)},
		{join(3599)},
		{repeat(2, 1), song},
		{repeat(6, 2), join(5), song},
		{where(1, 1, 1), song},
		{where(255, allHours, 1), join(7)},
		{where(128, 1<<23, 2), song, song},
		forty,
		append([]api.Part{repeat(6, 39)}, forty[1:]...),
		append(slices.Clone(forty[:38]), repeat(2, 1), song),
		{repeat(2, 3), repeat(3, 2), repeat(4, 1), song},
		{repeat(2, 3), where(3, 5, 2), repeat(4, 1), song, repeat(5, 1), join(1)},
		{repeat(2, 6), repeat(3, 5), repeat(4, 1), join(1), repeat(5, 2), join(2), song, join(3)},
		{where(1, 2, 1), join(1), where(2, 1, 1), join(2), song},
		{join(5), join(0), song, join(7), where(1, 1, 1), join(8), slot(2, 1, 1), join(9)},
		{repeat(6, 3), repeat(5, 2), slot(1, 1, 60), slot(2, 1, 60)},
		{repeat(6, 3), repeat(5, 2), slot(1, 1, 60), slot(2, 1, 60), slot(3, 1, 60)},
	}
}

// P9.1: Valid

func TestValidClocks(t *testing.T) {
	for _, l := range clocks() {
		if !format.Valid(l) {
			t.Errorf("Valid(%v) is false", l)
		}
		checkClock(t, l)
	}
}

func TestClocksOfWrongFieldsAreRefused(t *testing.T) {
	song := slot(1, 5, 9)
	for _, p := range []api.Part{
		{}, {Kind: -1}, {Kind: 5}, {Kind: 0, A: 1, B: 5, C: 9}, {Kind: 5, A: 1, B: 5, C: 9}, {Kind: math.MaxInt}, {Kind: math.MinInt},
		slot(0, 5, 9), slot(6, 5, 9), slot(-1, 5, 9), slot(1<<62, 5, 9), slot(1, 0, 9), slot(1, -1, 9), slot(1, 9, 5), slot(1, 1, 3601), slot(1, 3601, 3601), slot(1, 0, 0), slot(1, 1, math.MaxInt), slot(1, math.MinInt, 1), slot(1, math.MinInt, math.MaxInt),
		join(-1), join(3600), join(math.MaxInt), join(math.MinInt), {Kind: 2, A: 5, B: 1}, {Kind: 2, A: 5, C: 1}, {Kind: 2, A: 5, B: -1}, {Kind: 2, A: 5, C: -1}, {Kind: 2, B: 3, C: 5},
	} {
		refusesClock(t, []api.Part{p})
		refusesClock(t, []api.Part{song, p})
		refusesClock(t, []api.Part{p, song})
		refusesClock(t, []api.Part{repeat(2, 1), p})
		refusesClock(t, []api.Part{where(1, 1, 2), song, p})
		// What has no inside must not have one.
		p.Size = 1
		refusesClock(t, []api.Part{p, song})
	}
	for _, p := range []api.Part{
		repeat(1, 1), repeat(0, 1), repeat(7, 1), repeat(-2, 1), repeat(math.MaxInt, 1), repeat(math.MinInt, 1), {Kind: 3, A: 2, B: 1, Size: 1}, {Kind: 3, A: 2, C: 1, Size: 1}, {Kind: 3, A: 2, B: -1, Size: 1},
		where(0, 1, 1), where(256, 1, 1), where(-1, 1, 1), where(math.MaxInt, 1, 1), where(math.MinInt, 1, 1), where(1, 0, 1), where(1, 1<<24, 1), where(1, -1, 1), where(1, math.MaxInt, 1), where(1, math.MinInt, 1), {Kind: 4, A: 1, B: 1, C: 1, Size: 1}, {Kind: 4, A: 1, B: 1, C: -1, Size: 1},
		{Kind: 1, A: 1, B: 5, C: 9, Size: 1}, {Kind: 2, A: 5, Size: 1}, {Kind: 0, Size: 1}, {Kind: 5, A: 2, Size: 1}, {Kind: 5, A: 1, B: 1, Size: 1},
	} {
		refusesClock(t, []api.Part{p, song})
		refusesClock(t, []api.Part{p, song, song})
		refusesClock(t, []api.Part{song, p, song})
		refusesClock(t, []api.Part{repeat(2, 2), p, song})
	}
}

func TestClocksOfWrongSizesAreRefused(t *testing.T) {
	song := slot(1, 5, 9)
	refusesClock(t, nil)
	refusesClock(t, []api.Part{})
	for _, l := range [][]api.Part{
		make([]api.Part, 41),
		slices.Repeat([]api.Part{song}, 41),
		append([]api.Part{repeat(2, 40)}, slices.Repeat([]api.Part{song}, 40)...),
		slices.Repeat([]api.Part{song}, 1000000),
		{repeat(2, 0)}, {repeat(2, 1)}, {where(1, 1, 0)}, {where(1, 1, 1)}, {song, repeat(2, 0)}, {song, repeat(2, 1)},
		{repeat(2, 0), song}, {where(1, 1, 0), song}, {repeat(2, 2), song}, {where(1, 1, 2), song},
		{repeat(2, -1), song}, {repeat(2, -2), song}, {repeat(2, math.MaxInt), song}, {repeat(2, math.MinInt), song}, {where(1, 1, 1<<62), song}, {repeat(2, 1<<32+1), song},
		{{Kind: 1, A: 1, B: 5, C: 9, Size: 1}, song}, {{Kind: 2, A: 1, Size: -1}, song}, {{Kind: 1, A: 1, B: 5, C: 9, Size: -1}}, {song, {Kind: 1, A: 1, B: 5, C: 9, Size: math.MinInt}},
		// an inside that is not the whole of some parts
		{repeat(2, 1), repeat(2, 1), song}, {repeat(2, 2), repeat(2, 2), song, song}, {where(1, 1, 2), song, repeat(2, 1), song}, {repeat(2, 3), repeat(2, 2), repeat(2, 2), song, song}, {repeat(2, 2), song, where(1, 1, 2), song, song},
		// four parts around one
		{repeat(2, 4), repeat(2, 3), repeat(2, 2), repeat(2, 1), song},
		{where(1, 1, 4), where(1, 1, 3), where(1, 1, 2), where(1, 1, 1), join(1)},
		{repeat(2, 5), song, where(1, 1, 3), repeat(2, 2), where(1, 1, 1), song},
		{song, repeat(2, 4), where(1, 1, 3), repeat(2, 2), where(1, 1, 1), song, song},
	} {
		if definedAsValid(l) {
			t.Fatalf("%v is valid", l)
		}
		refusesClock(t, l)
	}
}

// TestAllShortClocks tests all lists of up to four parts of some.
func TestAllShortClocks(t *testing.T) {
	signs := []api.Part{slot(2, 30, 60), join(40), repeat(2, 0), repeat(2, 1), repeat(2, 2), repeat(2, 3), where(2, 2, 1), where(2, 2, 2), where(2, 2, 4)}
	valid := 0
	var try func(l []api.Part)
	try = func(l []api.Part) {
		if definedAsValid(l) {
			valid++
		}
		checkClock(t, l)
		if len(l) < 4 {
			for _, p := range signs {
				try(append(slices.Clone(l), p))
			}
		}
	}
	try(nil)
	if valid != 234 {
		t.Errorf("%d clocks are valid", valid)
	}
}

// TestNests tests all clocks that have, up to four times in each other, one of two kinds of parts.
func TestNests(t *testing.T) {
	for depth := range 6 {
		for kinds := range 1 << depth {
			l := []api.Part{join(1)}
			for k := range depth {
				around := repeat(2+k%5, len(l))
				if kinds>>k&1 == 1 {
					around = where(1<<k, 3<<k, len(l))
				}
				l = append([]api.Part{around}, l...)
			}
			if is := format.Valid(l); is != (depth <= 3) {
				t.Errorf("Valid(%v) = %v", l, is)
			}
			checkClock(t, l)
			checkClock(t, append([]api.Part{slot(1, 2, 3)}, l...))
			checkClock(t, append(slices.Clone(l), slot(1, 2, 3)))
		}
	}
}

func TestAnyClocks(t *testing.T) {
	r := rand.New(rand.NewSource(90))
	for range 400 {
		checkClock(t, anyClock(r))
		checkClock(t, soundClock(r))
	}
}

// TestChangedClocks tests valid clocks after one change of one field, most of which are not valid.
func TestChangedClocks(t *testing.T) {
	r := rand.New(rand.NewSource(91))
	numbers := []int{-1, 0, 1, 2, 3, 4, 5, 6, 7, 39, 40, 255, 256, 3599, 3600, 3601, allHours, allHours + 1, math.MaxInt, math.MinInt}
	valid := 0
	for range 4000 {
		l := anyClock(r)
		p := &l[r.Intn(len(l))]
		field := []*int{&p.Kind, &p.A, &p.B, &p.C, &p.Size, &p.Size}[r.Intn(6)]
		*field = numbers[r.Intn(len(numbers))]
		if definedAsValid(l) {
			valid++
			checkText(t, l)
		} else {
			refusesClock(t, l)
		}
	}
	if valid < 200 || valid > 3000 {
		t.Errorf("%d clocks are valid", valid)
	}
}

// P9.1: Expand

func TestExpandOfExample(t *testing.T) {
	news, song, spot := api.Slot{Kind: api.KNews, Least: 180, Most: 180, Join: -1}, api.Slot{Kind: api.KSong, Least: 150, Most: 300, Join: -1}, api.Slot{Kind: api.KSpot, Least: 30, Most: 60, Join: -1}
	talk := api.Slot{Kind: api.KTalk, Least: 60, Most: 1800, Join: 1800}
	without, with := []api.Slot{news, song, song, talk}, []api.Slot{news, song, spot, song, spot, talk}
	for region := range 8 {
		for h := range 24 {
			want := without
			if (region == 1 || region == 3) && h >= 6 && h <= 8 {
				want = with
			}
			if a, e := format.Expand(example(), region, h); !slices.Equal(a, want) || e != api.OK {
				t.Errorf("in %d at %d: %v, %d", region, h, a, e)
			}
		}
	}
}

func TestExpandOfEachRegionAndHour(t *testing.T) {
	for region := range 8 {
		for h := range 24 {
			l := []api.Part{where(1<<region, 1<<h, 1), slot(1, 5, 9)}
			for other := range 8 {
				for x := range 24 {
					a, e := format.Expand(l, other, x)
					if want := other == region && x == h; e != api.OK || (len(a) == 1) != want || (len(a) == 0) == want {
						t.Fatalf("Expand(%v, %d, %d) = %v, %d", l, other, x, a, e)
					}
				}
			}
		}
	}
}

func TestExpandOfJoins(t *testing.T) {
	song, spot := slot(1, 5, 9), slot(2, 1, 1)
	for i, c := range []struct {
		l    []api.Part
		want []int // the Join of each slot in the region 0 at 0, and then in the region 1
		two  []int
	}{
		{[]api.Part{join(3), song}, []int{3}, []int{3}},
		{[]api.Part{join(0), song, join(3599), spot}, []int{0, 3599}, []int{0, 3599}},
		// the last one counts, and only for the next slot
		{[]api.Part{join(9), join(3), song, spot}, []int{3, -1}, []int{3, -1}},
		{[]api.Part{join(3), song, join(4), join(5)}, []int{3}, []int{3}},
		// through the borders of conditions and repetitions
		{[]api.Part{join(3), where(1, 1, 1), join(4), song}, []int{4}, []int{3}},
		{[]api.Part{where(1, 1, 1), join(4), song}, []int{4}, []int{-1}},
		{[]api.Part{join(3), where(1, 1, 1), spot, song}, []int{3, -1}, []int{3}},
		{[]api.Part{where(1, 1, 2), spot, join(4), song}, []int{-1, 4}, []int{-1}},
		{[]api.Part{join(3), repeat(2, 1), song, spot}, []int{3, -1, -1}, []int{3, -1, -1}},
		{[]api.Part{repeat(2, 2), song, join(6), spot}, []int{-1, 6, 6}, []int{-1, 6, 6}},
		{[]api.Part{repeat(2, 2), join(6), song, spot}, []int{6, 6, -1}, []int{6, 6, -1}},
		{[]api.Part{repeat(2, 3), join(6), where(1, 1, 1), song, spot}, []int{6, 6, -1}, []int{6}},
		{[]api.Part{join(1), repeat(2, 1), join(6), song}, []int{6}, []int{6}},
	} {
		for region, want := range [][]int{c.want, c.two} {
			a, e := format.Expand(c.l, region, 0)
			var joins []int
			for _, s := range a {
				joins = append(joins, s.Join)
			}
			if !slices.Equal(joins, want) || e != api.OK {
				t.Errorf("%d: in %d: %v, %d; want %v", i, region, joins, e, want)
			}
		}
	}
}

func TestExpandOfManySlots(t *testing.T) {
	sixty := []api.Part{repeat(6, 3), repeat(5, 2), slot(1, 1, 60), slot(2, 1, 60)}
	if a, e := format.Expand(sixty, 7, 23); len(a) != 60 || e != api.OK {
		t.Errorf("%d, %d", len(a), e)
	}
	for _, l := range [][]api.Part{
		append(slices.Clone(sixty), slot(1, 1, 60)),
		append([]api.Part{slot(1, 1, 60)}, sixty...),
		append(slices.Clone(sixty), where(4, 8, 1), slot(1, 1, 60)),
		{repeat(6, 39), repeat(6, 38), repeat(6, 37)},
	} {
		for len(l) == 3 && len(l) < 40 {
			l = append(l, slices.Repeat([]api.Part{slot(1, 1, 60)}, 37)...)
		}
		checkExpand(t, l, 2, 3)
		if a, e := format.Expand(l, 2, 3); len(a) != 0 || e != api.ErrFormat {
			t.Errorf("%d slots, %d", len(a), e)
		}
		checkExpand(t, l, 3, 2)
	}
	// The limit is one of slots: other parts may be met as often as there are.
	l := append([]api.Part{slot(1, 1, 9), repeat(6, 38), repeat(6, 37), repeat(6, 36)}, slices.Repeat([]api.Part{join(7)}, 36)...)
	if a, e := format.Expand(l, 0, 0); len(a) != 1 || e != api.OK {
		t.Errorf("%v, %d", a, e)
	}
}

func TestExpandOfNoRegionOrHour(t *testing.T) {
	for _, n := range []int{-1, 8, 24, 25, 64, 256, -64, 1 << 32, 1 << 62, math.MaxInt, math.MinInt} {
		for _, l := range clocks() {
			if a, e := format.Expand(l, n, 0); len(a) != 0 || e != api.ErrFormat {
				t.Errorf("in the region %d: %v, %d", n, a, e)
			}
			if n == 8 {
				continue
			}
			if a, e := format.Expand(l, 0, n); len(a) != 0 || e != api.ErrFormat {
				t.Errorf("at the hour %d: %v, %d", n, a, e)
			}
		}
	}
	for h := range 24 {
		for region := range 8 {
			checkExpand(t, example(), region, h)
		}
	}
}

// P9.1: results share no memory with arguments

func TestResultsAreNewMemory(t *testing.T) {
	l := example()
	a, _ := format.Expand(l, 1, 7)
	b, _ := format.Expand(l, 1, 7)
	kept := slices.Clone(a)
	clear(l)
	clear(b[:cap(b)])
	if !slices.Equal(a, kept) {
		t.Errorf("%v", a)
	}
	slots := []api.Slot{{Kind: 1, Least: 1, Most: 3600, Join: 0}, {Kind: 1, Least: 1, Most: 3600, Join: -1}}
	given := slices.Clone(slots)
	x, y := format.Reach(slots), format.Reach(slots)
	clear(y[:cap(y)])
	if !slices.Equal(x, [][2]int{{0, 0}, {1, 3599}}) || !slices.Equal(slots, given) {
		t.Errorf("%v of %v", x, slots)
	}
	p, _, _ := format.Parse(exampleText)
	q, _, _ := format.Parse(exampleText)
	clear(q[:cap(q)])
	if !slices.Equal(p, example()) {
		t.Errorf("%v", p)
	}
}

func TestSpareCapacityIsNotWrittenTo(t *testing.T) {
	l := append(example(), slot(1, 2, 3), join(4), repeat(5, 1))
	given := slices.Clone(l)
	slots := make([]api.Slot, 60)
	for i := range slots {
		slots[i] = api.Slot{Kind: 1, Least: 1, Most: 3600, Join: -1}
	}
	format.Valid(l[:7])
	format.Print(l[:7])
	format.Expand(l[:7], 1, 7)
	format.Sound(l[:7])
	format.Why(l[:7])
	format.Reach(slots[:3])
	if !slices.Equal(l, given) {
		t.Errorf("%v", l)
	}
	for _, s := range slots {
		if s != (api.Slot{Kind: 1, Least: 1, Most: 3600, Join: -1}) {
			t.Fatalf("%v", slots)
		}
	}
}

// P9.3 (Theorem): what an hour has

func TestClocksOneAfterTheOther(t *testing.T) {
	r := rand.New(rand.NewSource(92))
	tested := 0
	for range 3000 {
		a, b := append(anyClock(r), slot(1+r.Intn(5), 2, 9)), anyClock(r)
		both := slices.Concat(a, b)
		if len(both) > 40 {
			continue
		}
		region, h := r.Intn(8), r.Intn(24)
		x, e := format.Expand(a, region, h)
		y, f := format.Expand(b, region, h)
		z, g := format.Expand(both, region, h)
		if e != api.OK || f != api.OK || len(x)+len(y) > 60 {
			if g != api.ErrFormat || len(z) != 0 {
				t.Fatalf("Expand(%v) = %v, %d", both, z, g)
			}
			continue
		}
		tested++
		if g != api.OK || !slices.Equal(z, slices.Concat(x, y)) {
			t.Fatalf("Expand(%v) = %v, %d; want %v and %v", both, z, g, x, y)
		}
	}
	if tested < 500 {
		t.Errorf("only %d were tested", tested)
	}
}

// inner returns a clock that can be inside of another part, and whose last part is a slot.
func inner(r *rand.Rand) []api.Part {
	for {
		if l := append(anyClock(r), slot(1+r.Intn(5), 2, 9)); len(l) < 40 && format.Valid(append([]api.Part{repeat(2, len(l))}, l...)) {
			return l
		}
	}
}

func TestRepetitions(t *testing.T) {
	r := rand.New(rand.NewSource(93))
	tested := 0
	for range 2000 {
		l, times := inner(r), 2+r.Intn(5)
		region, h := r.Intn(8), r.Intn(24)
		a, e := format.Expand(l, region, h)
		b, f := format.Expand(append([]api.Part{repeat(times, len(l))}, l...), region, h)
		if e != api.OK || len(a)*times > 60 {
			if f != api.ErrFormat || len(b) != 0 {
				t.Fatalf("%d times %v: %v, %d", times, l, b, f)
			}
			continue
		}
		tested++
		if f != api.OK || !slices.Equal(b, slices.Repeat(a, times)) {
			t.Fatalf("%d times %v: %v, %d; want %v", times, l, b, f, a)
		}
	}
	if tested < 500 {
		t.Errorf("only %d were tested", tested)
	}
}

func TestConditions(t *testing.T) {
	r := rand.New(rand.NewSource(94))
	for range 2000 {
		l, regions, hours := inner(r), 1+r.Intn(255), 1+r.Intn(allHours)
		region, h := r.Intn(8), r.Intn(24)
		want, err := format.Expand(l, region, h)
		if regions&(1<<region) == 0 || hours&(1<<h) == 0 {
			want, err = nil, api.OK
		}
		a, e := format.Expand(append([]api.Part{where(regions, hours, len(l))}, l...), region, h)
		if !slices.Equal(a, want) || e != err {
			t.Fatalf("in %d at %d: %v, %d; want %v, %d", regions, hours, a, e, want, err)
		}
	}
}

func FuzzFormat(f *testing.F) {
	f.Add([]byte{}, 0)
	f.Add([]byte{1, 1, 5, 9, 0, 3, 2, 0, 0, 1, 2, 7, 0, 0, 0}, 300)
	f.Add([]byte{4, 3, 9, 0, 1, 1, 1, 60, 60, 0}, 60)
	f.Fuzz(func(t *testing.T, b []byte, unit int) {
		var l []api.Part
		for ; len(b) >= 5 && len(l) < 42; b = b[5:] {
			p := api.Part{Kind: int(b[0]) % 6, A: int(b[1]), B: int(b[2]), C: int(b[3]), Size: int(b[4]) % 42}
			switch {
			case p.Kind == 1 && unit > 0:
				p.B, p.C = p.B*(unit%15), p.C*(unit%15)
			case p.Kind == 2:
				p.A *= unit % 15
			case p.Kind == 4:
				p.B *= unit
			}
			l = append(l, p)
		}
		checkClock(t, l)
		var slots []api.Slot
		if definedAsValid(l) {
			slots = definedSlots(l, 0, 0)
		}
		if len(slots) <= 60 {
			checkReach(t, slots)
		}
	})
}
