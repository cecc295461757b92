package clock

import (
	"math/rand"
	"testing"

	"aircheck/api"
)

// course is what a clock shows at the true seconds from start on; the second start + i is shown as shows[i].
type course struct {
	drift, start int
	shows        []int
}

// isPossible reports whether the course keeps the inequality of the chapter, for any two of its true seconds.
func (c course) isPossible() bool {
	for i, a := range c.shows {
		for j, b := range c.shows[i:] {
			if !possible(c.drift, j, b-a) {
				return false
			}
		}
	}
	return true
}

// clock returns a clock with which the course agrees: some of what it shows, with bounds around the true second.
func (c course) clock(r *rand.Rand, readings, margin int) api.Clock {
	out := api.Clock{Drift: c.drift}
	next := 0
	for range readings {
		i := next + r.Intn(1+2*len(c.shows)/readings)
		if i >= len(c.shows) {
			break
		}
		local, at := c.shows[i], c.start+i
		for next = i + 1; next < len(c.shows) && c.shows[next] == local; {
			next++
		}
		low, high := max(0, at-r.Intn(margin+1)), min(api.MaxTime, at+r.Intn(margin+1))
		if definedAsTime(local) && definedAsTime(at) {
			out.Readings = append(out.Readings, api.Reading{Local: local, Low: low, High: high})
		}
	}
	return out
}

// checkSound fails unless the functions keep P5.2 for a course and a clock that agree, at the true second with the index i.
func checkSound(t *testing.T, c course, clock api.Clock, i int) {
	t.Helper()
	at, local := c.start+i, c.shows[i]
	if !definedAsTime(at) || !definedAsTime(local) {
		return
	}
	if !Valid(clock) {
		t.Fatalf("%v is not valid", clock)
	}
	if first, last, e := At(clock, local); e != api.OK || at < first || at > last {
		t.Fatalf("%v shows %d at %d, but At(%v) = %d, %d, %d", c, local, at, clock, first, last, e)
	}
	if least, greatest, e := Reads(clock, at); e != api.OK || local < least || local > greatest {
		t.Fatalf("%v shows %d at %d, but Reads(%v) = %d, %d, %d", c, local, at, clock, least, greatest, e)
	}
	for other := at - 5; other <= at+5; other++ {
		if Before(clock, local, other) && at >= other || After(clock, local, other) && at <= other {
			t.Fatalf("%v shows %d at %d, but Before or After(%v, %d)", c, local, at, clock, other)
		}
	}
}

// eachCourse calls visit for every possible course of so many seconds that begins as c does.
func eachCourse(c course, seconds int, visit func(course)) {
	if len(c.shows) == seconds {
		visit(c)
		return
	}
	last := c.shows[len(c.shows)-1]
	for n := -1; n <= 4; n++ {
		next := course{c.drift, c.start, append(append([]int(nil), c.shows...), last+n)}
		if next.isPossible() {
			eachCourse(next, seconds, visit)
		}
	}
}

// P5.2

func TestEveryShortCourseIsSound(t *testing.T) {
	r := rand.New(rand.NewSource(20))
	courses := 0
	for _, drift := range []int{0, 1, 37, 99, 100} {
		for _, start := range []int{0, 3, 700, api.MaxTime - 4, api.MaxTime - 8} {
			for _, local := range []int{0, 4, 1000, api.MaxTime - 5} {
				eachCourse(course{drift, start, []int{local}}, 8, func(c course) {
					courses++
					for range 3 {
						clock := c.clock(r, 1+r.Intn(4), r.Intn(3))
						for i := range c.shows {
							checkSound(t, c, clock, i)
						}
					}
				})
			}
		}
	}
	if courses < 2000 {
		t.Errorf("only %d courses", courses)
	}
}

// TestReachedBounds tests that the bounds are as near as they can be: for a reading with one true second, each second that At returns is that of a course.
func TestReachedBounds(t *testing.T) {
	const seconds, middle = 9, 4
	for _, drift := range []int{0, 1, 60, 100} {
		reached := map[[2]int]bool{}
		for first := 95; first <= 105; first++ {
			eachCourse(course{drift, 500, []int{first}}, seconds, func(c course) {
				if c.shows[middle] == 100 {
					for i, local := range c.shows {
						reached[[2]int{local, 500 + i}] = true
					}
				}
			})
		}
		clock := api.Clock{Drift: drift, Readings: []api.Reading{{Local: 100, Low: 500 + middle, High: 500 + middle}}}
		for local := 98; local <= 102; local++ {
			for at := 500; at < 500+seconds; at++ {
				if canShow(clock, local, at) != reached[[2]int{local, at}] {
					t.Errorf("drift %d: a course shows %d at %d: %v; At says %v", drift, local, at, reached[[2]int{local, at}], canShow(clock, local, at))
				}
			}
		}
	}
}

// anyCourse returns a course whose rate changes now and then, and is often as fast or as slow as it can be.
func anyCourse(r *rand.Rand, drift, start, local, seconds int) course {
	c := course{drift: drift, start: start}
	thousandths, rate := 1000*local+r.Intn(1000), 1000
	for i := range seconds {
		if i == 0 || r.Intn(40) == 0 {
			rate = []int{1000 - drift, 1000 + drift, 1000, 1000 - drift + r.Intn(2*drift+1)}[r.Intn(4)]
		}
		c.shows = append(c.shows, thousandths/1000)
		thousandths += rate
	}
	return c
}

func TestLongCoursesAreSound(t *testing.T) {
	r := rand.New(rand.NewSource(21))
	for range 400 {
		drift := []int{0, 1, 5, 100, r.Intn(101)}[r.Intn(5)]
		start := []int{0, r.Intn(9000000), api.MaxTime - 300}[r.Intn(3)]
		c := anyCourse(r, drift, start, []int{0, r.Intn(9000000), api.MaxTime - 250}[r.Intn(3)], 400)
		if !c.isPossible() {
			t.Fatalf("%v is no course", c)
		}
		for range 5 {
			clock := c.clock(r, 1+r.Intn(api.MaxReadings), []int{0, 1, 30}[r.Intn(3)])
			for range 20 {
				checkSound(t, c, clock, r.Intn(len(c.shows)))
			}
		}
	}
}

// TestFastAndSlowClocksAreSound tests clocks that are fast or slow by the same rate for as long as there is time.
func TestFastAndSlowClocksAreSound(t *testing.T) {
	r := rand.New(rand.NewSource(22))
	for range 2000 {
		drift := []int{0, 1, 100, r.Intn(101)}[r.Intn(4)]
		rate, offset := []int{1000 - drift, 1000 + drift}[r.Intn(2)], r.Intn(1000)
		show := func(at int) course {
			return course{drift: drift, start: at, shows: []int{(rate*at + offset) / 1000}}
		}
		var clock api.Clock
		for _, at := range []int{r.Intn(3000000), 3000010 + r.Intn(6000000)} {
			clock = api.Clock{Drift: drift, Readings: append(clock.Readings, show(at).clock(r, 1, 2).Readings...)}
		}
		for range 10 {
			checkSound(t, show(r.Intn(api.MaxTime+1)), clock, 0)
		}
		checkSound(t, show(0), clock, 0)
		checkSound(t, show(api.MaxTime), clock, 0)
	}
}
