package week_test

import (
	"math"
	"math/bits"
	"math/rand"
	"slices"
	"testing"

	"aircheck/api"
	"aircheck/week"
)

const all = api.AllHours

// dayparts returns the week of the chapter's examples: 6 to 9 and 18 to 19 from Monday to Friday, and 8 to 11 on Saturday.
func dayparts() api.Week {
	return api.Week{787392, 787392, 787392, 787392, 787392, 3840, 0}
}

// everyHour returns the week that has all hours.
func everyHour() api.Week {
	return api.Week{all, all, all, all, all, all, all}
}

// weeks returns weeks with few and many hours, with runs over midnight, and over Sunday's.
func weeks() []api.Week {
	return []api.Week{
		{}, everyHour(), dayparts(),
		{1}, {1 << 23}, {6: 1}, {6: 1 << 23}, {1 << 23, 1}, {0: 1, 6: 1 << 23}, {3: 1 << 17}, {3: 1 << 18},
		{all}, {6: all}, {all, 0, all, 0, all, 0, all}, {all - 1, all, all, all, all, all, all}, {all, all, all, all, all, all, all >> 1},
		{0x555555, 0xaaaaaa, 0x555555, 0xaaaaaa, 0x555555, 0xaaaaaa, 0x555555}, {1 | 1<<23, 1 | 1<<23, 1, 1 << 23, 6, 0, 1 << 12},
		{1, 2, 4, 8, 16, 32, 64}, {0, 1 << 20, 1 << 21, 1 << 22, 1 << 23, 3, 3 << 22},
	}
}

// anyWeek returns a valid week.
func anyWeek(r *rand.Rand) api.Week {
	pool := []int{0, all, 1, 1 << 23, 1 | 1<<23, run(r), r.Intn(all + 1), r.Intn(all+1) & r.Intn(all+1) & r.Intn(all+1), all &^ run(r)}
	several := r.Intn(len(pool)) + 1
	r.Shuffle(len(pool), func(i, j int) { pool[i], pool[j] = pool[j], pool[i] })
	var w api.Week
	for day := range w {
		w[day] = pool[r.Intn(several)]
	}
	return w
}

// run returns some hours that follow each other.
func run(r *rand.Rand) int {
	from := r.Intn(24)
	to := from + 1 + r.Intn(24-from)
	return 1<<to - 1<<from
}

// anySpell returns a valid spell: mostly a short one, and often one that begins or ends with an hour, a day, or time.
func anySpell(r *rand.Rand) api.Spell {
	size := []int{1, 2, 100, 3600, 7200, 86400, 200000, 604800, 1300000, 10000000}[r.Intn(10)]
	s := api.Spell{From: r.Intn(10000000)}
	switch r.Intn(6) {
	case 0:
		s.From -= s.From % 3600
	case 1:
		s.From -= s.From % 86400
	case 2:
		s.From = 0
	case 3:
		s.From = 10000000 - min(size, 10000000)
	}
	s.To = min(s.From+1+r.Intn(size), 10000000)
	if r.Intn(3) == 0 && s.To-s.To%3600 > s.From {
		s.To -= s.To % 3600
	}
	return s
}

// extremes are numbers around every bound of a second, of an hour of a week and of a day's hours, and far from them.
var extremes = []int{math.MinInt, math.MinInt + 1, -1 << 62, -1 << 40, -10000000, -604800, -3600, -2, -1, 0, 1, 3599, 3600, 86399, 86400, 604799, 604800, 9999998, 9999999, 10000000, 10000001, 1<<24 - 1, 1 << 24, 1<<24 + 1, 1 << 31, 1 << 32, 1 << 40, 1 << 62, math.MaxInt - 1, math.MaxInt}

// definedAsValid reports whether w is valid in the words of the chapter.
func definedAsValid(w api.Week) bool {
	for _, n := range w {
		if n < 0 || n > 16777215 {
			return false
		}
	}
	return true
}

// definedAsSpell reports whether s is valid in the words of the chapter.
func definedAsSpell(s api.Spell) bool {
	return 0 <= s.From && s.From < s.To && s.To <= 10000000
}

// definedIn returns what the chapter says of In.
func definedIn(w api.Week, t int) bool {
	if !definedAsValid(w) || t < 0 || t > 9999999 {
		return false
	}
	number := w[t/86400%7]
	for range t / 3600 % 24 {
		number /= 2
	}
	return number%2 == 1
}

// definedSpells returns the longest spells of the seconds of s that w has. It looks at the first second of each hour, and at that of s.
func definedSpells(w api.Week, s api.Spell) []api.Spell {
	var out []api.Spell
	before := false
	for t := s.From; t < s.To; t += 3600 - t%3600 {
		if is := definedIn(w, t); is && !before {
			out, before = append(out, api.Spell{From: t, To: s.To}), true
		} else if !is && before {
			out[len(out)-1].To, before = t, false
		}
	}
	return out
}

// definedNext returns what the chapter says of Next.
func definedNext(w api.Week, t int) (int, bool) {
	if !definedAsValid(w) || t < 0 {
		return 0, false
	}
	for ; t <= 9999999; t += 3600 - t%3600 {
		if definedIn(w, t) {
			return t, true
		}
	}
	return 0, false
}

// count returns how many seconds the spells have.
func count(l []api.Spell) int {
	sum := 0
	for _, s := range l {
		sum += s.To - s.From
	}
	return sum
}

// checkSpells fails unless Spells and Seconds return what the chapter says.
func checkSpells(t testing.TB, w api.Week, s api.Spell) {
	t.Helper()
	want := definedSpells(w, s)
	if l, e := week.Spells(w, s); e != api.OK || !slices.Equal(l, want) {
		t.Fatalf("Spells(%v, %v) = %v, %d; want %v", w, s, l, e, want)
	}
	if n, e := week.Seconds(w, s); e != api.OK || n != count(want) {
		t.Fatalf("Seconds(%v, %v) = %d, %d; want %d", w, s, n, e, count(want))
	}
}

// checkSecond fails unless In and Next return what the chapter says of the second at.
func checkSecond(t testing.TB, w api.Week, at int) {
	t.Helper()
	if is := week.In(w, at); is != definedIn(w, at) {
		t.Fatalf("In(%v, %d) = %v", w, at, is)
	}
	want, there := definedNext(w, at)
	if n, is := week.Next(w, at); n != want || is != there {
		t.Fatalf("Next(%v, %d) = %d, %v; want %d, %v", w, at, n, is, want, there)
	}
}

// refusesWeek fails unless all functions refuse w.
func refusesWeek(t testing.TB, w api.Week) {
	t.Helper()
	if week.Valid(w) {
		t.Errorf("%v is valid", w)
	}
	for _, at := range extremes {
		if n, is := week.Next(w, at); week.In(w, at) || n != 0 || is {
			t.Errorf("In or Next(%v, %d)", w, at)
		}
	}
	for _, s := range []api.Spell{{From: 0, To: 1}, {From: 0, To: 10000000}, {From: 5, To: 5}} {
		if l, e := week.Spells(w, s); len(l) != 0 || e != api.ErrWeek {
			t.Errorf("Spells(%v, %v) = %v, %d", w, s, l, e)
		}
		if n, e := week.Seconds(w, s); n != 0 || e != api.ErrWeek {
			t.Errorf("Seconds(%v, %v) = %d, %d", w, s, n, e)
		}
	}
	for _, v := range []api.Week{{}, {1}, everyHour(), w} {
		a, e := week.And(w, v)
		b, f := week.And(v, w)
		c, g := week.Or(w, v)
		d, h := week.Or(v, w)
		if none := (api.Week{}); a != none || b != none || c != none || d != none || e != api.ErrWeek || f != api.ErrWeek || g != api.ErrWeek || h != api.ErrWeek {
			t.Errorf("And or Or of %v and %v", w, v)
		}
	}
	if n, e := week.Not(w); n != (api.Week{}) || e != api.ErrWeek {
		t.Errorf("Not(%v) = %v, %d", w, n, e)
	}
	if s, e := week.Print(w); s != "" || e != api.ErrWeek {
		t.Errorf("Print(%v) = %q, %d", w, s, e)
	}
}

// P6.1: Valid

func TestValidWeeks(t *testing.T) {
	r := rand.New(rand.NewSource(1))
	for _, w := range weeks() {
		if !week.Valid(w) {
			t.Errorf("%v is not valid", w)
		}
	}
	for range 1000 {
		if w := anyWeek(r); !week.Valid(w) {
			t.Errorf("%v is not valid", w)
		}
	}
}

func TestInvalidWeeksAreRefused(t *testing.T) {
	for day := range 7 {
		for _, n := range extremes {
			for _, w := range []api.Week{{}, dayparts(), everyHour()} {
				if w[day] = n; n < 0 || n > 16777215 {
					refusesWeek(t, w)
				} else if !week.Valid(w) {
					t.Errorf("%v is not valid", w)
				}
			}
		}
	}
	refusesWeek(t, api.Week{-1, -1, -1, -1, -1, -1, -1})
	// Their bits together would be those of a valid week.
	refusesWeek(t, api.Week{math.MinInt, math.MaxInt, 0, 0, 0, 0, 0})
	refusesWeek(t, api.Week{-1, 1 << 24, 1, 0, 0, 0, 0})
}

// P6.1: In

func TestInOfExamples(t *testing.T) {
	w := dayparts()
	for _, c := range []struct {
		at int
		is bool
	}{
		{21600, true}, {36000, false}, // Monday, 6:00:00 and 10:00:00
		{0, false}, {21599, false}, {35999, true}, {64799, false}, {64800, true}, {71999, true}, {72000, false}, {86399, false},
		{4*86400 + 21600, true}, {4*86400 + 21599, false}, {5*86400 + 21600, false}, {5*86400 + 28799, false}, {5*86400 + 28800, true}, {5*86400 + 43199, true}, {5*86400 + 43200, false},
		{6*86400 + 21600, false}, {604800 + 21600, true}, {604800 + 36000, false},
	} {
		if week.In(w, c.at) != c.is {
			t.Errorf("In(w, %d) = %v", c.at, !c.is)
		}
	}
}

func TestInHasExactlyOneHour(t *testing.T) {
	for day := range 7 {
		for hour := range 24 {
			var w api.Week
			w[day] = 1 << hour
			from := day*86400 + hour*3600
			for at := from % 3600; at < 2*604800; at += 3600 {
				if is := at%604800 == from; week.In(w, at) != is || week.In(w, at+3599) != is {
					t.Fatalf("the hour from %d of day %d, hour %d", at, day, hour)
				}
			}
		}
	}
}

func TestOtherSecondsBelongToNoWeek(t *testing.T) {
	for _, w := range weeks() {
		for _, at := range extremes {
			checkSecond(t, w, at)
		}
	}
	for _, at := range extremes {
		if is := at >= 0 && at <= 9999999; week.In(everyHour(), at) != is {
			t.Errorf("In(all hours, %d) = %v", at, !is)
		}
	}
}

func TestInAndNextOfEverySecond(t *testing.T) {
	for _, w := range []api.Week{dayparts(), {0: 1, 6: 1 << 23}, {3: 1 << 17}, {}} {
		next, there := 0, false
		for at := 9999999; at >= 0; at-- {
			// All seconds of the first week and the last one, and some of those between.
			if at > 700000 && at < 9300000 && at%1009 != 0 && at%3600 != 0 && at%3600 != 3599 {
				if definedIn(w, at) {
					next, there = at, true
				}
				continue
			}
			is := definedIn(w, at)
			if is {
				next, there = at, true
			}
			if week.In(w, at) != is {
				t.Fatalf("In(%v, %d) = %v", w, at, !is)
			}
			if n, is := week.Next(w, at); n != next || is != there {
				t.Fatalf("Next(%v, %d) = %d, %v; want %d, %v", w, at, n, is, next, there)
			}
		}
	}
}

// P6.1 and P6.6: Next

func TestNextOfExamples(t *testing.T) {
	w := dayparts()
	for _, c := range []struct{ at, next int }{
		{36000, 64800}, {417600, 460800}, {0, 21600}, {21599, 21600}, {21600, 21600}, {21601, 21601}, {35999, 35999}, {72000, 86400 + 21600},
		{475199, 475199}, {475200, 604800 + 21600}, {604799, 604800 + 21600}, {9971999, 9971999},
	} {
		if n, is := week.Next(w, c.at); n != c.next || !is {
			t.Errorf("Next(w, %d) = %d, %v; want %d", c.at, n, is, c.next)
		}
	}
	if n, is := week.Next(w, 9972000); n != 0 || is {
		t.Errorf("Next(w, 9972000) = %d, %v", n, is)
	}
}

// TestNextAtTheEndOfTime tests the last hour, 17 on a Thursday, of which there are only 2800 seconds.
func TestNextAtTheEndOfTime(t *testing.T) {
	for _, c := range []struct {
		w    api.Week
		at   int
		next int
		is   bool
	}{
		{api.Week{3: 1 << 17}, 9999999, 9999999, true}, {api.Week{3: 1 << 17}, 9997200, 9997200, true}, {api.Week{3: 1 << 17}, 9997199, 9997200, true}, {api.Week{3: 1 << 17}, 10000000, 0, false},
		{api.Week{3: 1 << 18}, 9999999, 0, false}, {api.Week{3: 1 << 18}, 9997200, 0, false}, {api.Week{3: 1 << 18}, 9399599, 9399599, true}, {api.Week{3: 1 << 18}, 9399600, 0, false}, {api.Week{3: 1 << 18}, 9400000, 0, false},
		{api.Week{4: all}, 9417599, 9417600, true}, {api.Week{4: all}, 9503999, 9503999, true}, {api.Week{4: all}, 9504000, 0, false},
		{everyHour(), 9999999, 9999999, true}, {everyHour(), 0, 0, true}, {api.Week{}, 0, 0, false}, {api.Week{}, 9999999, 0, false},
		{api.Week{1}, 0, 0, true}, {api.Week{1}, 3599, 3599, true}, {api.Week{1}, 3600, 604800, true},
	} {
		if n, is := week.Next(c.w, c.at); n != c.next || is != c.is {
			t.Errorf("Next(%v, %d) = %d, %v", c.w, c.at, n, is)
		}
	}
}

func TestNextIsAsDefined(t *testing.T) {
	r := rand.New(rand.NewSource(2))
	for range 20000 {
		w := anyWeek(r)
		at := r.Intn(10000000)
		checkSecond(t, w, at)
		checkSecond(t, w, at-at%3600)
		checkSecond(t, w, 9999999-r.Intn(700000))
		// There are none between.
		next, is := week.Next(w, at)
		if is && (next < at || !week.In(w, next)) {
			t.Fatalf("Next(%v, %d) = %d", w, at, next)
		}
		if !is {
			next = 10000000
		}
		if next > at {
			if n, e := week.Seconds(w, api.Spell{From: at, To: next}); n != 0 || e != api.OK {
				t.Fatalf("Next(%v, %d) = %d, but before it are %d seconds", w, at, next, n)
			}
			if week.In(w, next-1) {
				t.Fatalf("Next(%v, %d) = %d, but it has the second before it", w, at, next)
			}
		}
	}
}

// P6.1 and P6.4: Spells and Seconds

func TestSpellsOfExamples(t *testing.T) {
	for _, c := range []struct {
		w    api.Week
		s    api.Spell
		want []api.Spell
	}{
		{dayparts(), api.Spell{From: 30000, To: 70000}, []api.Spell{{From: 30000, To: 36000}, {From: 64800, To: 70000}}},
		{dayparts(), api.Spell{From: 36000, To: 64800}, nil},
		{dayparts(), api.Spell{From: 35999, To: 64801}, []api.Spell{{From: 35999, To: 36000}, {From: 64800, To: 64801}}},
		{dayparts(), api.Spell{From: 21600, To: 36000}, []api.Spell{{From: 21600, To: 36000}}},
		{dayparts(), api.Spell{From: 21599, To: 36001}, []api.Spell{{From: 21600, To: 36000}}},
		{dayparts(), api.Spell{From: 25000, To: 25001}, []api.Spell{{From: 25000, To: 25001}}},
		{dayparts(), api.Spell{From: 417600, To: 630000}, []api.Spell{{From: 460800, To: 475200}, {From: 626400, To: 630000}}},
		// Over midnight, over several days, and from Sunday to Monday.
		{api.Week{1 << 23, 1}, api.Spell{From: 0, To: 200000}, []api.Spell{{From: 82800, To: 90000}}},
		{api.Week{1 << 23, 1}, api.Spell{From: 86399, To: 86401}, []api.Spell{{From: 86399, To: 86401}}},
		{api.Week{1 << 23, 1}, api.Spell{From: 86400, To: 86401}, []api.Spell{{From: 86400, To: 86401}}},
		{api.Week{1 << 23, 1}, api.Spell{From: 82800, To: 86400}, []api.Spell{{From: 82800, To: 86400}}},
		{api.Week{1 << 23, all, 1}, api.Spell{From: 0, To: 604800}, []api.Spell{{From: 82800, To: 176400}}},
		{api.Week{0: 1, 6: 1 << 23}, api.Spell{From: 0, To: 700000}, []api.Spell{{From: 0, To: 3600}, {From: 601200, To: 608400}}},
		{api.Week{0: 2, 6: 1 << 23}, api.Spell{From: 601200, To: 612000}, []api.Spell{{From: 601200, To: 604800}, {From: 608400, To: 612000}}},
		// All of time, and none.
		{everyHour(), api.Spell{From: 0, To: 10000000}, []api.Spell{{From: 0, To: 10000000}}},
		{everyHour(), api.Spell{From: 1, To: 9999999}, []api.Spell{{From: 1, To: 9999999}}},
		{everyHour(), api.Spell{From: 9999999, To: 10000000}, []api.Spell{{From: 9999999, To: 10000000}}},
		{api.Week{}, api.Spell{From: 0, To: 10000000}, nil},
		{api.Week{3: 1 << 17}, api.Spell{From: 9990000, To: 10000000}, []api.Spell{{From: 9997200, To: 10000000}}},
	} {
		if l, e := week.Spells(c.w, c.s); e != api.OK || !slices.Equal(l, c.want) {
			t.Errorf("Spells(%v, %v) = %v, %d; want %v", c.w, c.s, l, e, c.want)
		}
		if n, e := week.Seconds(c.w, c.s); e != api.OK || n != count(c.want) {
			t.Errorf("Seconds(%v, %v) = %d, %d; want %d", c.w, c.s, n, e, count(c.want))
		}
	}
	if n, e := week.Seconds(dayparts(), api.Spell{From: 0, To: 604800}); n != 122400 || e != api.OK {
		t.Errorf("Seconds(w, a week) = %d, %d", n, e)
	}
}

func TestSpellsAreAsDefined(t *testing.T) {
	r := rand.New(rand.NewSource(3))
	for _, w := range weeks() {
		checkSpells(t, w, api.Spell{From: 0, To: 10000000})
		checkSpells(t, w, api.Spell{From: 0, To: 604800})
		for range 100 {
			checkSpells(t, w, anySpell(r))
		}
	}
	for range 10000 {
		checkSpells(t, anyWeek(r), anySpell(r))
	}
}

// TestSpellsOfEachSecond tests the theorem in its own words: second by second, and with In of this package.
func TestSpellsOfEachSecond(t *testing.T) {
	r := rand.New(rand.NewSource(4))
	for range 300 {
		w, s := anyWeek(r), anySpell(r)
		s.To = min(s.To, s.From+100000)
		l, e := week.Spells(w, s)
		if e != api.OK {
			t.Fatalf("Spells(%v, %v): %d", w, s, e)
		}
		for i, x := range l {
			if x.From < s.From || x.From >= x.To || x.To > s.To || i > 0 && l[i-1].To >= x.From {
				t.Fatalf("Spells(%v, %v) = %v", w, s, l)
			}
		}
		sum := 0
		for at := s.From; at < s.To; at++ {
			within := slices.ContainsFunc(l, func(x api.Spell) bool { return x.From <= at && at < x.To })
			if within != week.In(w, at) {
				t.Fatalf("Spells(%v, %v) = %v: second %d", w, s, l, at)
			}
			if within {
				sum++
			}
		}
		if n, e := week.Seconds(w, s); n != sum || e != api.OK {
			t.Fatalf("Seconds(%v, %v) = %d, %d; want %d", w, s, n, e, sum)
		}
	}
}

func TestInvalidSpellsAreRefused(t *testing.T) {
	for _, w := range []api.Week{{}, {1}, dayparts(), everyHour()} {
		for _, from := range extremes {
			for _, to := range extremes {
				s := api.Spell{From: from, To: to}
				if definedAsSpell(s) {
					checkSpells(t, w, s)
					continue
				}
				if l, e := week.Spells(w, s); len(l) != 0 || e != api.ErrWeek {
					t.Errorf("Spells(%v, %v) = %v, %d", w, s, l, e)
				}
				if n, e := week.Seconds(w, s); n != 0 || e != api.ErrWeek {
					t.Errorf("Seconds(%v, %v) = %d, %d", w, s, n, e)
				}
			}
		}
	}
}

func TestSpellsAreNewMemory(t *testing.T) {
	s := api.Spell{From: 0, To: 604800}
	first, _ := week.Spells(dayparts(), s)
	want := slices.Clone(first)
	for i := range first {
		first[i] = api.Spell{From: -1, To: -1}
	}
	_ = append(first, api.Spell{From: -1, To: -1})
	if second, e := week.Spells(dayparts(), s); e != api.OK || !slices.Equal(second, want) {
		t.Errorf("Spells(w, %v) = %v, %d; want %v", s, second, e, want)
	}
}

// P6.5: parts of a spell

func TestSecondsAddUp(t *testing.T) {
	r := rand.New(rand.NewSource(5))
	seconds := func(w api.Week, from, to int) int {
		n, e := week.Seconds(w, api.Spell{From: from, To: to})
		if e != api.OK {
			t.Fatalf("Seconds(%v, %d to %d): %d", w, from, to, e)
		}
		return n
	}
	for range 10000 {
		w, s := anyWeek(r), anySpell(r)
		n := seconds(w, s.From, s.To)
		if size := s.To - s.From; size > 1 {
			at := s.From + 1 + r.Intn(size-1)
			if hour := at - at%3600; hour > s.From && r.Intn(2) == 0 {
				at = hour
			}
			if first, second := seconds(w, s.From, at), seconds(w, at, s.To); first+second != n {
				t.Fatalf("%v, %v: %d up to %d and %d from it on, but %d in all", w, s, first, at, second, n)
			}
		}
		not, e := week.Not(w)
		if m := seconds(not, s.From, s.To); e != api.OK || n+m != s.To-s.From {
			t.Fatalf("%v, %v: %d seconds, and %d that it does not have", w, s, n, m)
		}
	}
}

// P6.1 and P6.3: And, Or and Not

// combined returns what a function says of valid weeks.
func combined(t testing.TB, w api.Week, e api.Errno) api.Week {
	t.Helper()
	if e != api.OK || !week.Valid(w) {
		t.Fatalf("%v, %d", w, e)
	}
	return w
}

func TestCombinationsOfExamples(t *testing.T) {
	a, b := api.Week{3, 0, all, 1 << 23, 5, 0, 6}, api.Week{5, 7, 1, 1 << 22, 5, 0, all}
	if w, e := week.And(a, b); w != (api.Week{1, 0, 1, 0, 5, 0, 6}) || e != api.OK {
		t.Errorf("And = %v, %d", w, e)
	}
	if w, e := week.Or(a, b); w != (api.Week{7, 7, all, 3 << 22, 5, 0, all}) || e != api.OK {
		t.Errorf("Or = %v, %d", w, e)
	}
	if w, e := week.Not(a); w != (api.Week{all - 3, all, 0, all - 1<<23, all - 5, all, all - 6}) || e != api.OK {
		t.Errorf("Not = %v, %d", w, e)
	}
	if w, e := week.Not(api.Week{}); w != everyHour() || e != api.OK {
		t.Errorf("Not of none = %v, %d", w, e)
	}
}

func TestWeeksAreSets(t *testing.T) {
	r := rand.New(rand.NewSource(6))
	and := func(a, b api.Week) api.Week { w, e := week.And(a, b); return combined(t, w, e) }
	or := func(a, b api.Week) api.Week { w, e := week.Or(a, b); return combined(t, w, e) }
	not := func(a api.Week) api.Week { w, e := week.Not(a); return combined(t, w, e) }
	for i := range 1000 {
		a, b, c := anyWeek(r), anyWeek(r), anyWeek(r)
		for _, law := range []struct {
			name string
			x, y api.Week
		}{
			{"And distributes over Or", and(a, or(b, c)), or(and(a, b), and(a, c))},
			{"Or distributes over And", or(a, and(b, c)), and(or(a, b), or(a, c))},
			{"Not is its own inverse", not(not(a)), a},
			{"Not of And is Or of Nots", not(and(a, b)), or(not(a), not(b))},
			{"Not of Or is And of Nots", not(or(a, b)), and(not(a), not(b))},
			{"And does not depend on the order", and(a, b), and(b, a)},
			{"Or does not depend on the order", or(a, b), or(b, a)},
			{"And can be grouped", and(a, and(b, c)), and(and(a, b), c)},
			{"Or can be grouped", or(a, or(b, c)), or(or(a, b), c)},
			{"And of one", and(a, a), a},
			{"Or of one", or(a, a), a},
			{"And absorbs", and(a, or(a, b)), a},
			{"Or absorbs", or(a, and(a, b)), a},
			{"none is in both", and(a, not(a)), api.Week{}},
			{"all are in one", or(a, not(a)), everyHour()},
			{"And with none", and(a, api.Week{}), api.Week{}},
			{"And with all", and(a, everyHour()), a},
			{"Or with none", or(a, api.Week{}), a},
			{"Or with all", or(a, everyHour()), everyHour()},
		} {
			if law.x != law.y {
				t.Fatalf("%s: %v and %v, with %v, %v, %v", law.name, law.x, law.y, a, b, c)
			}
		}
		both, one, none := and(a, b), or(a, b), not(a)
		for at := i % 3600; at < 10000000; at += 3600 {
			x, y := week.In(a, at), week.In(b, at)
			if week.In(both, at) != (x && y) || week.In(one, at) != (x || y) || week.In(none, at) == x {
				t.Fatalf("%v and %v at %d", a, b, at)
			}
		}
	}
}

// P6.7: a week later

func TestAWeekHasAllItsHours(t *testing.T) {
	r := rand.New(rand.NewSource(7))
	for _, w := range append(weeks(), dayparts()) {
		hours := 0
		for _, n := range w {
			hours += bits.OnesCount(uint(n))
		}
		starts := []int{0, 1, 3599, 3600, 86399, 604799, 604800, 604801, 10000000 - 604800, 10000000 - 604801}
		for range 200 {
			starts = append(starts, r.Intn(10000000-604800+1))
		}
		for _, from := range starts {
			if n, e := week.Seconds(w, api.Spell{From: from, To: from + 604800}); n != 3600*hours || e != api.OK {
				t.Fatalf("Seconds(%v, a week from %d on) = %d, %d; want %d", w, from, n, e, 3600*hours)
			}
		}
	}
}

func TestAWeekLaterEverythingIsTheSame(t *testing.T) {
	r := rand.New(rand.NewSource(8))
	for range 5000 {
		w, s := anyWeek(r), anySpell(r)
		if s.To > 10000000-604800 {
			continue
		}
		l, _ := week.Spells(w, s)
		for i := range l {
			l[i] = api.Spell{From: l[i].From + 604800, To: l[i].To + 604800}
		}
		later := api.Spell{From: s.From + 604800, To: s.To + 604800}
		if m, e := week.Spells(w, later); e != api.OK || !slices.Equal(l, m) {
			t.Fatalf("Spells(%v, %v) = %v, %d; want %v", w, later, m, e, l)
		}
		n, _ := week.Seconds(w, s)
		if m, e := week.Seconds(w, later); m != n || e != api.OK {
			t.Fatalf("Seconds(%v, %v) = %d, %d; want %d", w, later, m, e, n)
		}
		if week.In(w, s.From) != week.In(w, later.From) {
			t.Fatalf("In(%v, %d) is not In a week later", w, s.From)
		}
		next, is := week.Next(w, s.From)
		if after, still := week.Next(w, later.From); is && next < 10000000-604800 && (after != next+604800 || !still) {
			t.Fatalf("Next(%v, %d) = %d, but a week later %d, %v", w, s.From, next, after, still)
		}
	}
}

func FuzzWeek(f *testing.F) {
	f.Add(787392, 787392, 3840, 0, 1, 1<<23, api.AllHours, 30000, 70000)
	f.Add(-1, 0, 0, 0, 0, 0, 0, 0, 1)
	f.Add(0, 0, 0, 0, 0, 0, 1<<24, 9999999, 10000000)
	f.Fuzz(func(t *testing.T, a, b, c, d, e, g, h, from, to int) {
		w := api.Week{a, b, c, d, e, g, h}
		checkSecond(t, w, from)
		checkSecond(t, w, to)
		if !definedAsValid(w) {
			refusesWeek(t, w)
			return
		}
		if s := (api.Spell{From: from, To: to}); definedAsSpell(s) {
			checkSpells(t, w, s)
		}
		checkText(t, w)
	})
}
