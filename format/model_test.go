package format_test

import (
	"math/rand"
	"slices"
	"strconv"
	"strings"
	"testing"

	"aircheck/api"
	"aircheck/format"
)

// This file has what the tests share: the chapter's words as slow functions, clocks and slots to try, and checks against those words.

// hour is the number of seconds of an hour.
const hour = 3600

// allHours is the set of all hours of a day.
const allHours = 16777215

// slot, join, repeat and where are the parts that have no others inside, and the beginnings of those that have.
func slot(kind, least, most int) api.Part { return api.Part{Kind: 1, A: kind, B: least, C: most} }
func join(second int) api.Part            { return api.Part{Kind: 2, A: second} }
func repeat(times, size int) api.Part     { return api.Part{Kind: 3, A: times, Size: size} }
func where(regions, hours, size int) api.Part {
	return api.Part{Kind: 4, A: regions, B: hours, Size: size}
}

// exampleText is the text of the clock of the chapter's examples.
const exampleText = "news 180-180 ; repeat 2 { song 150-300 ; in 1,3 6-9 { spot 30-60 } } ; at 1800 ; talk 60-1800"

// example is the clock of the chapter's examples.
func example() []api.Part {
	return []api.Part{slot(5, 180, 180), repeat(2, 3), slot(1, 150, 300), where(10, 448, 1), slot(2, 30, 60), join(1800), slot(3, 60, 1800)}
}

// definedAsPart reports whether the fields of p are as the table says.
func definedAsPart(p api.Part) bool {
	switch p.Kind {
	case 1:
		return p.A >= 1 && p.A <= 5 && p.B >= 1 && p.B <= p.C && p.C <= 3600 && p.Size == 0
	case 2:
		return p.A >= 0 && p.A <= 3599 && p.B == 0 && p.C == 0 && p.Size == 0
	case 3:
		return p.A >= 2 && p.A <= 6 && p.B == 0 && p.C == 0 && p.Size >= 1
	case 4:
		return p.A >= 1 && p.A <= 255 && p.B >= 1 && p.B <= 16777215 && p.C == 0 && p.Size >= 1
	}
	return false
}

// definedAsValid reports whether l is a valid clock in the words of the chapter.
func definedAsValid(l []api.Part) bool {
	if len(l) < 1 || len(l) > 40 {
		return false
	}
	for i, p := range l {
		if !definedAsPart(p) || p.Size > len(l)-1-i {
			return false
		}
	}
	for i, p := range l {
		around := 0
		for j, q := range l[:i] {
			if i <= j+q.Size {
				around++
				if i+p.Size > j+q.Size {
					return false
				}
			}
		}
		if around > 3 {
			return false
		}
	}
	return true
}

// definedWords returns the words of one part before those of its inside.
func definedWords(p api.Part) []string {
	switch p.Kind {
	case 1:
		name := map[int]string{api.KSong: "song", api.KSpot: "spot", api.KTalk: "talk", api.KJingle: "jingle", api.KNews: "news"}[p.A]
		return []string{name, strconv.Itoa(p.B) + "-" + strconv.Itoa(p.C)}
	case 2:
		return []string{"at", strconv.Itoa(p.A)}
	case 3:
		return []string{"repeat", strconv.Itoa(p.A)}
	}
	return []string{"in", definedRegions(p.A), definedHours(p.B)}
}

// definedRegions returns how regions are written.
func definedRegions(set int) string {
	out := ""
	for region := range 8 {
		if set>>region&1 == 1 {
			out += "," + strconv.Itoa(region)
		}
	}
	return strings.TrimPrefix(out, ",")
}

// definedHours returns how hours are written.
func definedHours(set int) string {
	in := func(h int) bool { return h >= 0 && h < 24 && set>>h&1 == 1 }
	out := ""
	for h := range 25 {
		if in(h) && !in(h-1) {
			out += "," + strconv.Itoa(h) + "-"
		}
		if !in(h) && in(h-1) {
			out += strconv.Itoa(h)
		}
	}
	return strings.TrimPrefix(out, ",")
}

// definedText returns the text of a valid clock.
func definedText(l []api.Part) string {
	var words []string
	for i, p := range l {
		if i > 0 && l[i-1].Size == 0 {
			words = append(words, ";")
		}
		words = append(words, definedWords(p)...)
		if p.Size > 0 {
			words = append(words, "{")
			continue
		}
		for j, q := range l[:i] {
			if q.Size > 0 && j+q.Size == i {
				words = append(words, "}")
			}
		}
	}
	return strings.Join(words, " ")
}

// carelessly reads words as parts, and takes no notice of what is wrong in them, as long as it knows how to go on.
func carelessly(words []string) []api.Part {
	var l []api.Part
	var opened []int
	next := func() (word string) {
		if len(words) > 0 {
			word, words = words[0], words[1:]
		}
		return word
	}
	number := func(s string) int {
		n, _ := strconv.Atoi(s)
		return n
	}
	for len(words) > 0 {
		switch first := next(); first {
		case "song", "spot", "talk", "jingle", "news":
			least, most, _ := strings.Cut(next(), "-")
			l = append(l, slot(slices.Index([]string{"", "song", "spot", "talk", "jingle", "news"}, first), number(least), number(most)))
		case "at":
			l = append(l, join(number(next())))
		case "repeat":
			l = append(l, repeat(number(next()), 0))
		case "in":
			p := where(0, 0, 0)
			for _, region := range strings.Split(next(), ",") {
				p.A |= 1 << (number(region) & 63)
			}
			for _, text := range strings.Split(next(), ",") {
				from, to, _ := strings.Cut(text, "-")
				for h := number(from); h < number(to) && h < 24; h++ {
					p.B |= 1 << (h & 63)
				}
			}
			l = append(l, p)
		case "{":
			opened = append(opened, len(l)-1)
		case "}":
			if last := len(opened) - 1; last >= 0 && opened[last] >= 0 {
				l[opened[last]].Size = len(l) - 1 - opened[last]
				opened = opened[:last]
			}
		}
	}
	return l
}

// mostWords is more words than the text of any valid clock has.
const mostWords = 300

// definedClock returns the valid clock whose text has these words, and whether there is one.
func definedClock(words []string) ([]api.Part, bool) {
	if len(words) > mostWords {
		return nil, false
	}
	l := carelessly(words)
	return l, definedAsValid(l) && definedText(l) == strings.Join(words, " ")
}

// ends has the ways to end what is begun, up to where only what was opened has to be closed.
var ends = [][]string{{}, {"1-1"}, {"0"}, {"at", "0"}, {"{", "at", "0"}, {"2", "{", "at", "0"}, {"0-1", "{", "at", "0"}, {"0", "0-1", "{", "at", "0"}}

// isBeginning reports whether the text of some valid clock begins with these words.
func isBeginning(words []string) bool {
	if len(words) > mostWords {
		return false
	}
	for _, end := range ends {
		l := slices.Concat(words, end)
		for opened := count(l, "{") - count(l, "}"); opened > 0; opened-- {
			l = append(l, "}")
		}
		if _, ok := definedClock(l); ok {
			return true
		}
	}
	return len(words) == 0
}

// count returns how often word is in l.
func count(l []string, word string) int {
	out := 0
	for _, other := range l {
		if other == word {
			out++
		}
	}
	return out
}

// definedParse returns what the chapter says of Parse.
func definedParse(s string) ([]api.Part, int, api.Errno) {
	words := strings.Split(s, " ")
	if l, ok := definedClock(words); ok {
		return l, len(words), api.OK
	}
	// What begins with what is no beginning is none either.
	right, wrong := 0, min(len(words), mostWords)+1
	for right+1 < wrong {
		if middle := (right + wrong) / 2; isBeginning(words[:middle]) {
			right = middle
		} else {
			wrong = middle
		}
	}
	return nil, right, api.ErrFormat
}

// definedSlots returns the slots of a valid clock: without its limit, and by replacing repetitions and conditions by what they stand for.
func definedSlots(l []api.Part, region, hour int) []api.Slot {
	l = slices.Clone(l)
	for i := len(l) - 1; i >= 0; i-- {
		p, times := l[i], 0
		switch {
		case p.Kind < 3:
			continue
		case p.Kind == 3:
			times = p.A
		case p.A>>region&1 == 1 && p.B>>hour&1 == 1:
			times = 1
		}
		inside := slices.Repeat(slices.Clone(l[i+1:i+1+p.Size]), times)
		for j := range i {
			if i <= j+l[j].Size {
				l[j].Size += len(inside) - 1 - p.Size
			}
		}
		l = slices.Replace(l, i, i+1+p.Size, inside...)
	}
	var out []api.Slot
	for i, p := range l {
		if p.Kind != 1 {
			continue
		}
		s := api.Slot{Kind: p.A, Least: p.B, Most: p.C, Join: -1}
		if i > 0 && l[i-1].Kind == 2 {
			s.Join = l[i-1].A
		}
		out = append(out, s)
	}
	return out
}

// definedAsSlots reports whether l is a valid list of slots.
func definedAsSlots(l []api.Slot) bool {
	for _, s := range l {
		if s.Kind < 1 || s.Kind > 5 || s.Least < 1 || s.Most < s.Least || s.Most > 3600 || s.Join < -1 || s.Join > 3599 {
			return false
		}
	}
	return len(l) >= 1 && len(l) <= 60
}

// seconds says which seconds of an hour are possible, its end among them; the last one stands for all that are later.
type seconds [hour + 2]bool

// later is the index of the seconds after the hour.
const later = hour + 1

// after returns the seconds at which what begins at one of these can end, if it has a length from least to most.
func (a *seconds) after(least, most int) *seconds {
	var out seconds
	var count [hour + 2]int // how many of the seconds before this one are possible
	for t := range later {
		count[t+1] = count[t]
		if a[t] {
			count[t+1]++
			out[later] = out[later] || t+most > hour
		}
	}
	for t := least; t <= hour; t++ {
		out[t] = count[t-least+1] > count[max(t-most, 0)]
	}
	out[later] = out[later] || a[later]
	return &out
}

// joined returns those of the seconds at which a slot with this Join may begin.
func (a *seconds) joined(second int) *seconds {
	if second == -1 {
		return a
	}
	var out seconds
	out[second] = a[second]
	return &out
}

// isEmpty reports whether no second is possible.
func (a *seconds) isEmpty() bool {
	return *a == seconds{}
}

// definedEnds returns, for each of the valid slots and for the end, the seconds at which the slots before it can end, each of which begins at its Join, if it has one.
func definedEnds(l []api.Slot) []*seconds {
	out := []*seconds{{0: true}}
	for i, s := range l {
		out = append(out, out[i].joined(s.Join).after(s.Least, s.Most))
	}
	return out
}

// definedBegins returns, for each of the valid slots, the seconds at which it begins in some filling.
func definedBegins(l []api.Slot) []*seconds {
	out := definedEnds(l)
	left := &seconds{hour: true} // the seconds from which the end can be met
	for i := len(l) - 1; i >= 0; i-- {
		// Backwards, the end of a slot comes before its beginning.
		mirrored := &seconds{}
		for t := range later {
			mirrored[hour-t] = left[t]
		}
		mirrored = mirrored.after(l[i].Least, l[i].Most)
		left = &seconds{}
		for t := range later {
			left[t] = mirrored[hour-t]
		}
		left = left.joined(l[i].Join)
		for t := range out[i] {
			out[i][t] = out[i][t] && left[t]
		}
	}
	return out[:len(l)]
}

// bounds returns the least and the greatest possible second, and whether there is one.
func (a *seconds) bounds() ([2]int, bool) {
	var out [2]int
	found := false
	for t := range later {
		if a[t] {
			if !found {
				out[0] = t
			}
			out[1], found = t, true
		}
	}
	return out, found
}

// definedReach returns what the chapter says of Reach.
func definedReach(l []api.Slot) [][2]int {
	if !definedAsSlots(l) {
		return nil
	}
	var out [][2]int
	for _, begins := range definedBegins(l) {
		x, ok := begins.bounds()
		if !ok {
			return nil
		}
		out = append(out, x)
	}
	return out
}

// definedCause returns the Slot of a cause about these slots, and whether there is one.
func definedCause(l []api.Slot) (int, bool) {
	if len(l) > 60 {
		return 60, true
	}
	ends := definedEnds(l)
	for i, s := range l {
		if ends[i].joined(s.Join).isEmpty() {
			return i, true
		}
	}
	return len(l), !ends[len(l)][hour]
}

// definedWhy returns what the chapter says of Why for a valid clock.
func definedWhy(l []api.Part) (api.Cause, bool) {
	known := map[string]int{} // what is known of slots that were met in another hour; -1: there is no cause
	for region := range 8 {
		for h := range 24 {
			slots := definedSlots(l, region, h)
			key := ""
			for _, s := range slots[:min(len(slots), 61)] {
				key += string([]rune{rune(s.Kind), rune(s.Least), rune(s.Most), rune(s.Join + 1)})
			}
			index, ok := known[key]
			if !ok {
				index = -1
				if n, found := definedCause(slots); found {
					index = n
				}
				known[key] = index
			}
			if index != -1 {
				return api.Cause{Region: region, Hour: h, Slot: index}, true
			}
		}
	}
	return api.Cause{}, false
}

// checkParse fails unless Parse returns what the chapter says of s, and accepts only the text of what it returns. It returns whether s was accepted.
func checkParse(t testing.TB, s string) bool {
	t.Helper()
	want, count, err := definedParse(s)
	l, n, e := format.Parse(s)
	if !slices.Equal(l, want) || n != count || e != err {
		t.Fatalf("Parse(%q) = %v, %d, %d; want %v, %d, %d", s, l, n, e, want, count, err)
	}
	if e != api.OK {
		return false
	}
	if text, e := format.Print(l); text != s || e != api.OK || !format.Valid(l) {
		t.Fatalf("Print(%v) = %q, %d; want %q", l, text, e, s)
	}
	return true
}

// checkText fails unless Print returns the text of the valid clock l, and Parse returns l from it.
func checkText(t testing.TB, l []api.Part) string {
	t.Helper()
	want := definedText(l)
	s, e := format.Print(l)
	if s != want || e != api.OK || !format.Valid(l) {
		t.Fatalf("Print(%v) = %q, %d; want %q", l, s, e, want)
	}
	if m, n, e := format.Parse(s); !slices.Equal(m, l) || n != len(strings.Split(want, " ")) || e != api.OK {
		t.Fatalf("Parse(%q) = %v, %d, %d; want %v", s, m, n, e, l)
	}
	return s
}

// checkExpand fails unless Expand returns what the chapter says of the valid clock l in this region and hour.
func checkExpand(t testing.TB, l []api.Part, region, h int) {
	t.Helper()
	want, err := definedSlots(l, region, h), api.OK
	if len(want) > 60 {
		want, err = nil, api.ErrFormat
	}
	if a, e := format.Expand(l, region, h); !slices.Equal(a, want) || e != err {
		t.Fatalf("Expand(%v, %d, %d) = %v, %d; want %v, %d", l, region, h, a, e, want, err)
	}
}

// checkClock fails unless all functions say of l what the chapter does. It returns whether l is sound.
func checkClock(t testing.TB, l []api.Part) bool {
	t.Helper()
	if !definedAsValid(l) {
		refusesClock(t, l)
		return false
	}
	given := slices.Clone(l)
	checkText(t, l)
	for region := range 8 {
		for h := range 24 {
			if region%3 == 1 || h%5 == 1 {
				checkExpand(t, l, region, h)
			}
		}
	}
	want, found := definedWhy(l)
	if c, is := format.Why(l); c != want || is != found || format.Sound(l) == found {
		t.Fatalf("Why(%v) = %v, %v; want %v, %v", l, c, is, want, found)
	}
	if !slices.Equal(l, given) {
		t.Fatalf("%v was changed to %v", given, l)
	}
	return !found
}

// refusesClock fails unless all functions refuse l.
func refusesClock(t testing.TB, l []api.Part) {
	t.Helper()
	given := slices.Clone(l)
	s, e := format.Print(l)
	c, is := format.Why(l)
	if format.Valid(l) || s != "" || e != api.ErrFormat || c != (api.Cause{}) || is || format.Sound(l) {
		t.Fatalf("of %v: Print %q, %d; Why %v, %v", l, s, e, c, is)
	}
	for _, x := range [][2]int{{0, 0}, {7, 23}, {8, 24}} {
		if a, e := format.Expand(l, x[0], x[1]); len(a) != 0 || e != api.ErrFormat {
			t.Fatalf("Expand(%v, %v) = %v, %d", l, x, a, e)
		}
	}
	if !slices.Equal(l, given) {
		t.Fatalf("%v was changed to %v", given, l)
	}
}

// checkReach fails unless Reach returns what the chapter says of l. It returns whether l has a filling.
func checkReach(t testing.TB, l []api.Slot) bool {
	t.Helper()
	given := slices.Clone(l)
	want := definedReach(l)
	if a := format.Reach(l); !slices.Equal(a, want) {
		t.Fatalf("Reach(%v) = %v; want %v", l, a, want)
	}
	if !slices.Equal(l, given) {
		t.Fatalf("%v was changed to %v", given, l)
	}
	return len(want) > 0
}

// anyClock returns a valid clock of random parts.
func anyClock(r *rand.Rand) []api.Part {
	most := 1 + r.Intn(40)
	var parts func(l []api.Part, around, room int) []api.Part
	parts = func(l []api.Part, around, room int) []api.Part {
		for first := len(l); len(l) < room && (len(l) == first || r.Intn(4) > 0); {
			index := len(l)
			if around == 3 || room-len(l) < 2 || r.Intn(3) > 0 {
				l = append(l, anyLeaf(r))
				continue
			}
			p := repeat(2+r.Intn(5)*r.Intn(2), 0)
			if r.Intn(2) == 0 {
				p = where(1+r.Intn(255), 1+r.Intn(allHours), 0)
			}
			l = parts(append(l, p), around+1, index+2+r.Intn(room-index-1))
			l[index].Size = len(l) - 1 - index
		}
		return l
	}
	return parts(nil, 0, most)
}

// anyLeaf returns a slot or a join.
func anyLeaf(r *rand.Rand) api.Part {
	if r.Intn(3) == 0 {
		return join(r.Intn(hour) / (1 + r.Intn(hour)))
	}
	least := 1 + r.Intn(hour)/(1+r.Intn(hour))
	return slot(1+r.Intn(5), least, least+r.Intn(hour+1-least))
}

// anySlots returns valid slots that have a filling, so many of them.
func anySlots(r *rand.Rand, count int) []api.Slot {
	// begins has the seconds at which the slots begin in one filling.
	begins := r.Perm(hour - 1)[:count-1]
	for i := range begins {
		begins[i]++
	}
	begins = append(begins, 0, hour)
	slices.Sort(begins)
	var l []api.Slot
	for i := range count {
		length := begins[i+1] - begins[i]
		s := api.Slot{Kind: 1 + r.Intn(5), Least: length, Most: length, Join: -1}
		if r.Intn(3) > 0 {
			s.Least -= r.Intn(length) / (1 + r.Intn(9))
			s.Most += r.Intn(hour+1-length) / (1 + r.Intn(99))
		}
		if r.Intn(4) == 0 {
			s.Join = begins[i]
		}
		l = append(l, s)
	}
	return l
}

// soundClock returns a sound clock: the same filling in all regions and hours, with parts of it in other slots in some of them.
func soundClock(r *rand.Rand) []api.Part {
	var l []api.Part
	for _, s := range anySlots(r, 1+r.Intn(8)) {
		if s.Join != -1 {
			l = append(l, join(s.Join))
		}
		switch {
		case r.Intn(3) == 0 && s.Least >= 2:
			regions, hours := 1+r.Intn(254), 1+r.Intn(allHours)
			l = append(l, where(regions, hours, 1), slot(s.Kind, s.Least, s.Most))
			l = append(l, where(255-regions, hours, 2), slot(1, 1, 1), slot(2, s.Least-1, s.Most-1))
			if hours != allHours {
				l = append(l, where(255, allHours-hours, 1), slot(3, s.Least, s.Most))
			}
		case r.Intn(3) == 0 && s.Least%2 == 0 && s.Most%2 == 0:
			l = append(l, repeat(2, 1), slot(s.Kind, s.Least/2, s.Most/2))
		default:
			l = append(l, slot(s.Kind, s.Least, s.Most))
		}
	}
	if len(l) > 40 {
		return soundClock(r)
	}
	return l
}
