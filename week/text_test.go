package week_test

import (
	"math/rand"
	"regexp"
	"strconv"
	"strings"
	"testing"

	"aircheck/api"
	"aircheck/week"
)

var names = []string{"mon", "tue", "wed", "thu", "fri", "sat", "sun"}

var ones = regexp.MustCompile("1+")

// definedRuns returns the longest runs of bits of set: the number of the first one of each, and that of the first one after it.
func definedRuns(set, size int) [][]int {
	digits := ""
	for i := range size {
		digits += strconv.Itoa(set >> i & 1)
	}
	return ones.FindAllStringIndex(digits, -1)
}

// definedDays returns how days are written.
func definedDays(set int) string {
	var out []string
	for _, x := range definedRuns(set, 7) {
		if first, last := names[x[0]], names[x[1]-1]; first == last {
			out = append(out, first)
		} else {
			out = append(out, first+"-"+last)
		}
	}
	return strings.Join(out, ",")
}

// definedHours returns how hours are written.
func definedHours(set int) string {
	var out []string
	for _, x := range definedRuns(set, 24) {
		out = append(out, strconv.Itoa(x[0])+"-"+strconv.Itoa(x[1]))
	}
	return strings.Join(out, " ")
}

// definedText returns the text of a valid week, as the chapter says.
func definedText(w api.Week) (string, int) {
	var groups []string
	for day, hours := range w {
		days, isFirst := 0, hours != 0
		for other, n := range w {
			if n == hours {
				days |= 1 << other
				isFirst = isFirst && other >= day
			}
		}
		if isFirst {
			groups = append(groups, definedDays(days)+" "+definedHours(hours))
		}
	}
	if len(groups) == 0 {
		return "never", 0
	}
	return strings.Join(groups, "; "), len(groups)
}

// texts has every way of writing days, and every run of hours, with their sets.
type texts struct {
	days, hours map[string]int
}

func allTexts() texts {
	all := texts{days: map[string]int{}, hours: map[string]int{}}
	for set := 1; set < 128; set++ {
		all.days[definedDays(set)] = set
	}
	for from := range 24 {
		for to := from + 1; to <= 24; to++ {
			set := 1<<to - 1<<from
			all.hours[definedHours(set)] = set
		}
	}
	return all
}

// known is what reads the texts in the tests.
var known = allTexts()

// definedGroup returns the days and hours of a group, and whether it is written as the chapter says.
func definedGroup(s string) (int, int, bool) {
	words := strings.Split(s, " ")
	days, ok := known.days[words[0]]
	hours := 0
	for _, word := range words[1:] {
		set, is := known.hours[word]
		hours, ok = hours|set, ok && is
	}
	return days, hours, ok && s == definedDays(days)+" "+definedHours(hours)
}

// definedParse returns what the chapter says of Parse.
func definedParse(s string) (api.Week, int, api.Errno) {
	if s == "never" {
		return api.Week{}, 0, api.OK
	}
	groups := strings.Split(s, "; ")
	var w api.Week
	var allHours []int
	seen, first := 0, 0
	for i, text := range groups {
		days, hours, ok := definedGroup(text)
		if !ok || days&seen != 0 {
			return api.Week{}, i, api.ErrWeek
		}
		least := 0
		for days>>least&1 == 0 {
			least++
		}
		if i > 0 && least < first {
			return api.Week{}, i, api.ErrWeek
		}
		for _, n := range allHours {
			if n == hours {
				return api.Week{}, i, api.ErrWeek
			}
		}
		for day := range w {
			if days>>day&1 == 1 {
				w[day] = hours
			}
		}
		seen, first, allHours = seen|days, least, append(allHours, hours)
	}
	return w, len(groups), api.OK
}

// checkText fails unless Print returns the text of the valid week w, and Parse returns w from it.
func checkText(t testing.TB, w api.Week) string {
	t.Helper()
	want, groups := definedText(w)
	s, e := week.Print(w)
	if s != want || e != api.OK {
		t.Fatalf("Print(%v) = %q, %d; want %q", w, s, e, want)
	}
	if v, n, e := week.Parse(s); v != w || n != groups || e != api.OK {
		t.Fatalf("Parse(%q) = %v, %d, %d; want %v, %d", s, v, n, e, w, groups)
	}
	return s
}

// checkParse fails unless Parse returns what the chapter says of s, and accepts only the text of what it returns. It returns whether s was accepted.
func checkParse(t testing.TB, s string) bool {
	t.Helper()
	want, count, err := definedParse(s)
	w, n, e := week.Parse(s)
	if w != want || n != count || e != err {
		t.Fatalf("Parse(%q) = %v, %d, %d; want %v, %d, %d", s, w, n, e, want, count, err)
	}
	if e != api.OK {
		return false
	}
	if text, e := week.Print(w); text != s || e != api.OK || !week.Valid(w) {
		t.Fatalf("Print(%v) = %q, %d; want %q", w, text, e, s)
	}
	return true
}

// P6.1: Print

func TestPrint(t *testing.T) {
	for _, c := range []struct {
		w    api.Week
		text string
	}{
		{api.Week{}, "never"},
		{dayparts(), "mon-fri 6-10 18-20; sat 8-12"},
		{everyHour(), "mon-sun 0-24"},
		{api.Week{1}, "mon 0-1"},
		{api.Week{6: 1 << 23}, "sun 23-24"},
		{api.Week{all, all}, "mon-tue 0-24"},
		{api.Week{5: all, 6: all}, "sat-sun 0-24"},
		{api.Week{0: all, 6: all}, "mon,sun 0-24"},
		{api.Week{3, 0, 3, 3, 0, 3, 3}, "mon,wed-thu,sat-sun 0-2"},
		{api.Week{1, 2, 1, 2, 1, 2, 1}, "mon,wed,fri,sun 0-1; tue,thu,sat 1-2"},
		{api.Week{1, 2, 3, 2, 1, 3, 0}, "mon,fri 0-1; tue,thu 1-2; wed,sat 0-2"},
		{api.Week{0, 5, 5, 0, 1 << 9, 1 << 10, 3 << 9}, "tue-wed 0-1 2-3; fri 9-10; sat 10-11; sun 9-11"},
		{api.Week{1, 2, 4, 8, 16, 32, 64}, "mon 0-1; tue 1-2; wed 2-3; thu 3-4; fri 4-5; sat 5-6; sun 6-7"},
		{api.Week{64, 32, 16, 8, 4, 2, 1}, "mon 6-7; tue 5-6; wed 4-5; thu 3-4; fri 2-3; sat 1-2; sun 0-1"},
		{api.Week{0x555555}, "mon 0-1 2-3 4-5 6-7 8-9 10-11 12-13 14-15 16-17 18-19 20-21 22-23"},
		{api.Week{6: 0xaaaaaa}, "sun 1-2 3-4 5-6 7-8 9-10 11-12 13-14 15-16 17-18 19-20 21-22 23-24"},
	} {
		if s, e := week.Print(c.w); s != c.text || e != api.OK {
			t.Errorf("Print(%v) = %q, %d; want %q", c.w, s, e, c.text)
		}
		checkText(t, c.w)
	}
}

// P6.2: texts of weeks

func TestTextsOfAllDays(t *testing.T) {
	for set := range 128 {
		for _, hours := range []int{1, all, 1 << 23, 787392} {
			var w, other api.Week
			for day := range w {
				if set>>day&1 == 1 {
					w[day], other[day] = hours, hours
				} else {
					other[day] = 2
				}
			}
			checkText(t, w)
			checkText(t, other)
		}
	}
}

func TestTextsOfAllHours(t *testing.T) {
	for set := range 1 << 12 {
		checkText(t, api.Week{set, 0, set << 6, 0, 0, 0, set << 12})
	}
	for from := range 24 {
		for to := from + 1; to <= 24; to++ {
			hours := 1<<to - 1<<from
			checkText(t, api.Week{2: hours})
			checkText(t, api.Week{2: all - hours, 3: hours})
		}
	}
}

// TestTextsOfAllGroups tests all ways to divide the days into up to four groups, and days without hours.
func TestTextsOfAllGroups(t *testing.T) {
	hours := []int{0, 1, 1 << 23, 787392, all}
	for number := range 5 * 5 * 5 * 5 * 5 * 5 * 5 {
		var w api.Week
		for day := range w {
			w[day] = hours[number%5]
			number /= 5
		}
		checkText(t, w)
	}
}

func TestTextsOfAnyWeek(t *testing.T) {
	r := rand.New(rand.NewSource(20))
	for range 20000 {
		checkText(t, anyWeek(r))
	}
}

func TestDifferentWeeksHaveDifferentTexts(t *testing.T) {
	r := rand.New(rand.NewSource(21))
	seen := map[string]api.Week{}
	for range 20000 {
		w := anyWeek(r)
		s, _ := week.Print(w)
		if v, ok := seen[s]; ok && v != w {
			t.Fatalf("%q is the text of %v and of %v", s, v, w)
		}
		seen[s] = w
	}
}

// P6.1: Parse

func TestParseOfExamples(t *testing.T) {
	for _, c := range []struct {
		s     string
		w     api.Week
		count int
	}{
		{"never", api.Week{}, 0},
		{"mon-fri 6-10 18-20; sat 8-12", dayparts(), 2},
		{"mon-sun 0-24", everyHour(), 1},
		{"sun 23-24", api.Week{6: 1 << 23}, 1},
		{"mon,wed-thu,sun 0-1", api.Week{1, 0, 1, 1, 0, 0, 1}, 1},
		{"mon,sun 0-1; tue,sat 1-2", api.Week{1, 2, 0, 0, 0, 2, 1}, 2},
		{"mon 0-1; tue 1-2; wed 2-3; thu 3-4; fri 4-5; sat 5-6; sun 6-7", api.Week{1, 2, 4, 8, 16, 32, 64}, 7},
	} {
		if w, n, e := week.Parse(c.s); w != c.w || n != c.count || e != api.OK {
			t.Errorf("Parse(%q) = %v, %d, %d", c.s, w, n, e)
		}
		checkParse(t, c.s)
	}
}

// refusesAt fails unless Parse refuses s because of the group with this index.
func refusesAt(t *testing.T, s string, group int) {
	t.Helper()
	if w, n, e := week.Parse(s); w != (api.Week{}) || n != group || e != api.ErrWeek {
		t.Errorf("Parse(%q) = %v, %d, %d; want %d", s, w, n, e, group)
	}
}

func TestWrongGroups(t *testing.T) {
	for _, s := range []string{
		"", " ", "mon", "mon ", "6-10", " 6-10", "mon6-10", "mon-fri", "mon,6-10", "mon;6-10",
		// days
		"Mon 6-10", "MON 6-10", "monday 6-10", "mo 6-10", "xyz 6-10", "mon-mon 6-10", "tue-mon 6-10", "sun-mon 6-10", "mon- 6-10", "-mon 6-10", "- 6-10", "mon--wed 6-10", "mon-wed-fri 6-10", "mon-xyz 6-10", "xyz-mon 6-10",
		"mon,tue 6-10", "mon,tue-wed 6-10", "mon-tue,wed 6-10", "mon-tue,wed-thu 6-10", "wed,mon 6-10", "mon,mon 6-10", "mon-wed,tue 6-10", "mon-wed,tue-fri 6-10", "mon-wed,wed-fri 6-10", "wed-fri,mon 6-10",
		"mon, 6-10", ",mon 6-10", ", 6-10", "mon,,wed 6-10", "mon, wed 6-10", "mon ,wed 6-10", " mon 6-10", "mon\t6-10", "mon\u00a06-10", "mon\n6-10", "0 6-10", "1-5 6-10",
		// hours
		"mon  6-10", "mon 6-10 ", "mon 6-10  12-13", "mon 6-10,12-13", "mon 6-10\t12-13", "mon 6-10 12-13 ",
		"mon 6", "mon 6-", "mon -10", "mon -", "mon 6--10", "mon 6-10-12", "mon 6 - 10", "mon 6- 10", "mon 6:10", "mon a-b", "mon 0x6-10", "mon 6-1_0", "mon 6.0-10", "mon ６-10",
		"mon 06-10", "mon 6-010", "mon 00-10", "mon +6-10", "mon 6-+10", "mon -6-10", "mon 6--1", "mon -0-10", "mon 6-6", "mon 10-6", "mon 0-0", "mon 24-24", "mon 24-25", "mon 0-25", "mon 23-25", "mon 6-100", "mon 25-26",
		"mon 6-18446744073709551626", "mon 18446744073709551622-10", "mon 4294967302-10", "mon 6-266", "mon 6-9223372036854775808",
		"mon 6-8 8-10", "mon 6-8 7-10", "mon 8-10 6-7", "mon 6-10 6-10", "mon 6-10 7-8", "mon 6-10 0-1", "mon 6-10 9-12", "mon 22-24 24-24", "mon 22-24 0-1",
		// never, and ends
		"never ", " never", "Never", "never;", "never; ", "never; never", "never; mon 6-10", "never 6-10", "mon never", "nevermore", "mon,never 6-10",
		"mon 6-10;", "mon 6-10;tue 8-9", "mon 6-10 ;", "; ", "; mon 6-10", ";", "mon 6-10;; tue 8-9", "mon 6-10,tue 8-9", "mon 6-10 tue 8-9", "mon 6-10\x00", "\x00", "mon 6-10\xff", "\xff\xfe", "mon 6-10;\ttue 8-9",
	} {
		refusesAt(t, s, 0)
		if strings.Contains(s, ";") {
			continue
		}
		// The same group is wrong behind another one, before another one, and as the last one of many.
		refusesAt(t, "mon 0-1; "+s, 1)
		refusesAt(t, s+"; sun 0-1", 0)
		refusesAt(t, "mon 0-1; "+s+"; sun 1-2", 1)
		refusesAt(t, "mon 0-1; tue 1-2; wed 2-3; thu 3-4; fri 4-5; sat 5-6; "+s, 6)
	}
}

func TestGroupsThatContradictOtherGroups(t *testing.T) {
	for s, group := range map[string]int{
		// the hours of a group before it
		"mon 6-10; tue 6-10": 1, "mon 6-10; wed 6-10": 1, "mon 6-10; tue 7-8; wed 6-10": 2, "mon 6-10; tue 7-8; wed 7-8": 2, "mon 0-24; sun 0-24": 1, "mon 1-2 3-4; wed 1-2 3-4": 1,
		// a day that is in a group before it
		"mon 6-10; mon 7-8": 1, "mon 6-10; mon 6-10": 1, "mon-tue 6-10; tue 7-8": 1, "mon,wed 6-10; tue-wed 7-8": 1, "mon-wed 6-10; tue 7-8": 1, "mon,sun 6-10; tue-sun 7-8": 1, "mon 6-10; tue,sun 7-8; wed,sun 8-9": 2, "mon,thu 6-10; tue 7-8; wed-thu 8-9": 2,
		// a first day that is less
		"tue 6-10; mon 7-8": 1, "sun 6-10; mon-sat 7-8": 1, "tue 6-10; mon,wed 7-8": 1, "mon 6-10; wed 7-8; tue 8-9": 2, "tue 6-10; wed 7-8; mon 8-9": 2, "tue 1-2; sat 2-3; wed,sun 3-4": 2,
		// the first one counts
		"mon 6-10; tue 6-10; wed 6-10": 1, "mon 6-10; tue 7-8; tue 8-9; xyz": 2, "tue 6-10; mon 7-8; never": 1, "mon 6-10; never; never": 1, "xyz; never": 0, "mon 6-10; never": 1, "mon 6-10; tue 7-8; never": 2,
		// empty groups, and more of them than days
		"mon 6-10; ": 1, "mon 6-10; ; ": 1, "mon 6-10; tue 7-8; ": 2, "mon 6-10;  tue 7-8": 1, "mon 6-10; tue 7-8;": 1, "mon 0-1; tue 1-2; wed 2-3; thu 3-4; fri 4-5; sat 5-6; sun 6-7; ": 7, "mon 0-1; tue 1-2; wed 2-3; thu 3-4; fri 4-5; sat 5-6; sun 6-7; sun 7-8": 7, "mon 0-1; tue 1-2; wed 2-3; thu 3-4; fri 4-5; sat 5-6; sun 6-7; mon 7-8": 7,
	} {
		refusesAt(t, s, group)
		checkParse(t, s)
	}
	// What looks like a contradiction, but is none.
	for _, s := range []string{"mon 6-10; tue 6-11", "mon 6-10; tue 6-10 11-12", "mon,sun 6-10; tue 7-8", "mon 1-2; tue 11-12", "mon-tue,sun 6-10; wed,sat 7-8; thu-fri 8-9"} {
		if !checkParse(t, s) {
			t.Errorf("Parse(%q) refuses it", s)
		}
	}
}

// TestEveryEditOfATextIsAsDefined tests all texts that differ by one byte from some texts of weeks.
func TestEveryEditOfATextIsAsDefined(t *testing.T) {
	const signs = " ,;-0123456789montuewdhfrisavMN+\t\x00\xff"
	accepted := 0
	try := func(s string) {
		if checkParse(t, s) {
			accepted++
		}
	}
	for _, w := range []api.Week{
		{}, dayparts(), everyHour(), {1}, {6: 1 << 23}, {1, 2, 4, 8, 16, 32, 64}, {3, 0, 3, 3, 0, 3, 3}, {1, 2, 1, 2, 1, 2, 1},
		{1 | 1<<2, 1 << 9, 1 << 10, 3 << 9, 1 << 19, 1 << 20, 3 << 20}, {2, 3, 2, 3 << 11, 3 << 11, 0, 3},
	} {
		text := checkText(t, w)
		for i := 0; i <= len(text); i++ {
			for j := range len(signs) {
				try(text[:i] + signs[j:j+1] + text[i:])
				if i < len(text) {
					try(text[:i] + signs[j:j+1] + text[i+1:])
				}
			}
			try(text[:i])
			try(text[i:])
			if i < len(text) {
				try(text[:i] + text[i+1:])
				try(text[:i] + text[i:i+1] + text[i:])
			}
		}
	}
	if accepted < 500 {
		t.Errorf("only %d texts were accepted", accepted)
	}
}

// TestEveryShortWordIsAsDefined tests groups of all pairs of days and of all pairs of numbers.
func TestEveryShortWordIsAsDefined(t *testing.T) {
	for _, a := range append([]string{"", "never", "x"}, names...) {
		for _, b := range append([]string{"", "never", "x"}, names...) {
			for _, between := range []string{"-", ",", " ", "", "--", "; "} {
				checkParse(t, a+between+b+" 6-10")
			}
		}
	}
	for a := -2; a <= 30; a++ {
		for b := -2; b <= 30; b++ {
			hours := strconv.Itoa(a) + "-" + strconv.Itoa(b)
			if is := checkParse(t, "mon "+hours); is != (0 <= a && a < b && b <= 24) {
				t.Errorf("%q: %v", hours, is)
			}
			checkParse(t, "mon 6-10 "+hours)
			checkParse(t, "mon "+hours+" 6-10")
			checkParse(t, "mon "+hours+"; tue 6-10")
			checkParse(t, "mon 6-10; tue "+hours)
		}
	}
}

func TestTextsOfWordsAreAsDefined(t *testing.T) {
	r := rand.New(rand.NewSource(22))
	pick := func(words ...string) string { return words[r.Intn(len(words))] }
	accepted := 0
	for range 200000 {
		s := ""
		for i := range 1 + r.Intn(4) {
			if i > 0 {
				s += pick("; ", "; ", "; ", "; ", ";", " ", ",")
			}
			from := r.Intn(7)
			s += pick(names[from:]...) + pick("", "", "-sun", ","+pick(names[from:]...), "-"+pick(names...))
			for at := r.Intn(10); at < 24 && s[len(s)-1] != ' '; at += r.Intn(5) {
				end := at + r.Intn(20)
				s += pick(" ", " ", " ", " ", " ", " ", " ", "  ", ",") + strconv.Itoa(at) + pick("-", "-", "-", "-", "-", "-", " ") + strconv.Itoa(end)
				at = end
			}
		}
		if checkParse(t, s) {
			accepted++
		}
	}
	if accepted < 2000 {
		t.Errorf("only %d texts were accepted", accepted)
	}
}

// TestListsOfGroupsAreAsDefined tests groups that are right, in lists that mostly are not.
func TestListsOfGroupsAreAsDefined(t *testing.T) {
	r := rand.New(rand.NewSource(23))
	accepted := 0
	for range 100000 {
		var groups []string
		for range 1 + r.Intn(4) {
			days := (1 + r.Intn(127)) & (1 + r.Intn(127))
			if days == 0 {
				days = 1 << r.Intn(7)
			}
			groups = append(groups, definedDays(days)+" "+definedHours(1+r.Intn(6)))
		}
		if checkParse(t, strings.Join(groups, "; ")) {
			accepted++
		}
	}
	if accepted < 5000 {
		t.Errorf("only %d texts were accepted", accepted)
	}
}

func TestLongTextsAreRefused(t *testing.T) {
	const many = 1000000
	for s, group := range map[string]int{
		strings.Repeat("mon 0-1; ", many):                  1,
		strings.Repeat("; ", many):                         0,
		strings.Repeat("mon,", many) + "mon 0-1":           0,
		"mon" + strings.Repeat("-tue", many) + " 0-1":      0,
		"mon" + strings.Repeat(" 0-1", many):               0,
		"mon 0-" + strings.Repeat("1", many):               0,
		"mon " + strings.Repeat("0", many) + "1-2":         0,
		"mon 0-1; " + strings.Repeat("never", many):        1,
		"mon 0-1;" + strings.Repeat(" ", many) + "tue 0-2": 1,
		strings.Repeat("\x00", many):                       0,
	} {
		refusesAt(t, s, group)
	}
}

func FuzzParse(f *testing.F) {
	for _, w := range weeks() {
		s, _ := week.Print(w)
		f.Add(s)
	}
	for _, s := range []string{"", "mon 6-10; tue 6-10", "mon 6-8 8-10", "mon 6-10; never", "mon,tue 1-2", "tue 1-2; mon 3-4"} {
		f.Add(s)
	}
	f.Fuzz(func(t *testing.T, s string) {
		checkParse(t, s)
	})
}
