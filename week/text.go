package week

import (
	"iter"
	"math/bits"
	"strconv"
	"strings"

	"aircheck/api"
)

// The signs of the texts of weeks.
const (
	never         = "never"
	betweenGroups = "; "
	betweenDays   = ","
	betweenHours  = " "
	beforeHours   = " "
	through       = "-"
)

// endOfDay is the hour at which a day is over.
const endOfDay = 24

// dayNames has the name of each day.
var dayNames = [7]string{"mon", "tue", "wed", "thu", "fri", "sat", "sun"}

// group is the days of a week that have exactly the same hours; both are sets of bits, and neither is empty.
type group struct {
	days, hours int
}

// daysByHours returns, for the hours of each day that has some, all days that have exactly these.
func daysByHours(w api.Week) map[int]int {
	days := make(map[int]int)
	for day, hours := range w {
		if hours != 0 {
			days[hours] |= run(day, day+1)
		}
	}
	return days
}

// text returns how the group is written.
func (g group) text() string {
	return writeRuns(g.days, betweenDays, writeDays) + beforeHours + writeRuns(g.hours, betweenHours, writeHours)
}

// first returns the first day of the group.
func (g group) first() int {
	return bits.TrailingZeros(uint(g.days))
}

// isNew reports whether none of the groups that made w has a day of this one, or its hours.
func (g group) isNew(w api.Week) bool {
	for day, hours := range w {
		if hours == g.hours || hours != 0 && has(g.days, day) {
			return false
		}
	}
	return true
}

// addTo returns w with the hours of the group on its days.
func (g group) addTo(w api.Week) api.Week {
	for day := range w {
		if has(g.days, day) {
			w[day] = g.hours
		}
	}
	return w
}

// readGroup returns the group whose text is s, and whether there is one.
func readGroup(s string) (group, bool) {
	days, hours, _ := strings.Cut(s, beforeHours)
	g := group{
		days:  readRuns(days, betweenDays, readDays),
		hours: readRuns(hours, betweenHours, readHours),
	}
	return g, g.days != 0 && g.hours != 0
}

// writeRuns returns the longest runs of set, each as write has it, with between between them.
func writeRuns(set int, between string, write func(from, to int) string) string {
	var texts []string
	for from, to := range runs(set) {
		texts = append(texts, write(from, to))
	}
	return strings.Join(texts, between)
}

// readRuns returns the set whose longest runs are written as s, or an empty one if there is none. What read returns of a part that is no run is empty, too.
func readRuns(s string, between string, read func(text string) (from, to int)) int {
	set, end := 0, -1
	for text := range parts(s, between) {
		from, to := read(text)
		// A run that follows the one before it without a gap would make one longer run with it.
		if from >= to || from <= end {
			return 0
		}
		set, end = set|run(from, to), to
	}
	return set
}

// parts yields what s has before, between and behind the places where between is, found from the left.
func parts(s string, between string) iter.Seq[string] {
	return func(yield func(string) bool) {
		for text, rest, more := strings.Cut(s, between); yield(text) && more; {
			text, rest, more = strings.Cut(rest, between)
		}
	}
}

// writeDays returns how the days from from on, up to but not including to, are written.
func writeDays(from, to int) string {
	if to == from+1 {
		return dayNames[from]
	}
	return dayNames[from] + through + dayNames[to-1]
}

// readDays is the inverse of writeDays; 0 and 0 if no days are written like this.
func readDays(text string) (from, to int) {
	first, last, several := strings.Cut(text, through)
	from = dayNumber(first)
	if from < 0 {
		return 0, 0
	}
	if !several {
		return from, from + 1
	}
	to = dayNumber(last) + 1
	if to <= from+1 {
		return 0, 0
	}
	return from, to
}

// dayNumber returns the day with this name, or -1.
func dayNumber(name string) int {
	for day, known := range dayNames {
		if known == name {
			return day
		}
	}
	return -1
}

// writeHours returns how the hours from from on, up to but not including to, are written.
func writeHours(from, to int) string {
	return strconv.Itoa(from) + through + strconv.Itoa(to)
}

// readHours is the inverse of writeHours; 0 and 0 if no hours are written like this.
func readHours(text string) (from, to int) {
	first, end, _ := strings.Cut(text, through)
	from, to = hourNumber(first), hourNumber(end)
	if from < 0 || to <= from {
		return 0, 0
	}
	return from, to
}

// hourNumber returns the hour with this number, up to the end of the day, or -1. Other spellings of a number, such as 01, are none.
func hourNumber(s string) int {
	for hour := range endOfDay + 1 {
		if strconv.Itoa(hour) == s {
			return hour
		}
	}
	return -1
}
