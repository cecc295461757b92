package format_test

import (
	"math/rand"
	"slices"
	"strconv"
	"strings"
	"testing"

	"aircheck/api"
	"aircheck/format"
)

// P9.1: Print

func TestPrint(t *testing.T) {
	song := slot(1, 5, 9)
	for _, c := range []struct {
		l    []api.Part
		text string
	}{
		{example(), exampleText},
		{[]api.Part{slot(1, 1, 3600)}, "song 1-3600"},
		{[]api.Part{slot(2, 3600, 3600)}, "spot 3600-3600"},
		{[]api.Part{slot(3, 7, 7)}, "talk 7-7"},
		{[]api.Part{slot(4, 10, 100)}, "jingle 10-100"},
		{[]api.Part{slot(5, 999, 1000)}, "news 999-1000"},
		{[]api.Part{join(0)}, "at 0"},
		{[]api.Part{join(3599), join(10)}, "at 3599 ; at 10"},
		{[]api.Part{repeat(6, 1), song}, "repeat 6 { song 5-9 }"},
		{[]api.Part{repeat(2, 2), song, join(1), song}, "repeat 2 { song 5-9 ; at 1 } ; song 5-9"},
		{[]api.Part{repeat(2, 3), repeat(3, 2), repeat(4, 1), song}, "repeat 2 { repeat 3 { repeat 4 { song 5-9 } } }"},
		{[]api.Part{repeat(2, 4), repeat(3, 1), song, repeat(4, 1), song, song}, "repeat 2 { repeat 3 { song 5-9 } ; repeat 4 { song 5-9 } } ; song 5-9"},
		{[]api.Part{where(1, 1, 1), song}, "in 0 0-1 { song 5-9 }"},
		{[]api.Part{where(255, allHours, 1), song}, "in 0,1,2,3,4,5,6,7 0-24 { song 5-9 }"},
		{[]api.Part{where(129, 1<<23+1, 1), song}, "in 0,7 0-1,23-24 { song 5-9 }"},
		{[]api.Part{where(42, 3<<6+1<<9, 1), song}, "in 1,3,5 6-8,9-10 { song 5-9 }"},
		{[]api.Part{where(128, 0x555555, 1), song}, "in 7 0-1,2-3,4-5,6-7,8-9,10-11,12-13,14-15,16-17,18-19,20-21,22-23 { song 5-9 }"},
		{[]api.Part{where(2, 0xaaaaaa, 1), song}, "in 1 1-2,3-4,5-6,7-8,9-10,11-12,13-14,15-16,17-18,19-20,21-22,23-24 { song 5-9 }"},
		{[]api.Part{where(2, allHours-1<<12, 1), song}, "in 1 0-12,13-24 { song 5-9 }"},
	} {
		if s, e := format.Print(c.l); s != c.text || e != api.OK {
			t.Errorf("Print(%v) = %q, %d; want %q", c.l, s, e, c.text)
		}
		if l, n, e := format.Parse(c.text); !slices.Equal(l, c.l) || n != strings.Count(c.text, " ")+1 || e != api.OK {
			t.Errorf("Parse(%q) = %v, %d, %d", c.text, l, n, e)
		}
		checkText(t, c.l)
		checkParse(t, c.text)
	}
}

// P9.1: Parse

func TestParseOfExamples(t *testing.T) {
	l, n, e := format.Parse(exampleText)
	if !slices.Equal(l, example()) || len(l) != 7 || l[1].Size != 3 || n != 23 || e != api.OK {
		t.Errorf("%v, %d, %d", l, n, e)
	}
	refusesAt(t, "song 30-20", 1)
	refusesAt(t, "song 20-30 ;", 3)
}

// refusesAt fails unless Parse refuses s because of the word with this index.
func refusesAt(t *testing.T, s string, word int) {
	t.Helper()
	if l, n, e := format.Parse(s); len(l) != 0 || n != word || e != api.ErrFormat {
		t.Errorf("Parse(%q) = %v, %d, %d; want %d", s, l, n, e, word)
	}
}

func TestWrongWords(t *testing.T) {
	for s, word := range map[string]int{
		// no part
		"": 0, " ": 0, ";": 0, "{": 0, "}": 0, "songs 1-2": 0, "son 1-2": 0, "Song 1-2": 0, "SONG 1-2": 0, "1-2": 0, "5 1-2": 0, " song 1-2": 0, "song\t1-2": 0, "song\n1-2": 0, "song\u00a01-2": 0, "\x00": 0, "\xff": 0, "song1-2": 0, "at5": 0, "song; 1-2": 0, "song,spot 1-2": 0, "-": 0, "never": 0, "where 0 0-1": 0, "join 5": 0, "ad 5-6": 0, "and": 0,
		// the lengths of a slot
		"song": 1, "song ": 1, "song  1-2": 1, "song 1": 1, "song 1-": 1, "song -2": 1, "song -": 1, "song 1--2": 1, "song 1-2-3": 1, "song 1,2": 1, "song 1:2": 1, "song 1 - 2": 1, "song 1- 2": 1, "song 0-2": 1, "song 0-0": 1, "song -1-2": 1, "song 1-0": 1, "song 2-1": 1, "song 1-3601": 1, "song 3601-3601": 1, "song 3600-3601": 1, "song 01-2": 1, "song 1-02": 1, "song +1-2": 1, "song 1-+2": 1, "song 1-2;": 1, "song 1-2\n": 1, "song a-b": 1, "song 0x1-2": 1, "song 1_0-20": 1, "song 1.0-2": 1, "song 1e1-20": 1, "song １-2": 1, "song 1-36000": 1, "song 18446744073709551617-18446744073709551618": 1, "song 1-18446744073709551618": 1, "song 4294967297-4294967298": 1, "song 1-9223372036854775808": 1, "song song 1-2": 1, "song ; song 1-2": 1, "song 5": 1, "song at 5": 1, "song { song 1-2 }": 1,
		// the second of a join
		"at": 1, "at ": 1, "at  5": 1, "at 3600": 1, "at -1": 1, "at -0": 1, "at +0": 1, "at 00": 1, "at 05": 1, "at 10000": 1, "at 5-6": 1, "at 5;": 1, "at 5,6": 1, "at x": 1, "at 18446744073709551616": 1, "at 4294967296": 1, "at ; at 5": 1, "at at": 1, "at { at 5 }": 1,
		// after a part
		"song 1-2 ": 2, "song 1-2  ; at 5": 2, "song 1-2 song 1-2": 2, "song 1-2 at 5": 2, "song 1-2 }": 2, "song 1-2 {": 2, "song 1-2 ;; at 5": 2, "song 1-2 , at 5": 2, "song 1-2 ; ": 3, "song 1-2 ;": 3, "song 1-2 ; ;": 3, "song 1-2 ;  at 5": 3, "song 1-2 ; }": 3, "song 1-2 ; { at 5 }": 3, "song 1-2 ; at 5 ": 5, "song 1-2 ; at": 4, "at 5 repeat 2 { at 5 }": 2, "at 5 in 0 0-1 { at 5 }": 2,
		// repetitions
		"repeat": 1, "repeat ": 1, "repeat 1 { at 5 }": 1, "repeat 0 { at 5 }": 1, "repeat 7 { at 5 }": 1, "repeat -2 { at 5 }": 1, "repeat 02 { at 5 }": 1, "repeat +2 { at 5 }": 1, "repeat 10 { at 5 }": 1, "repeat 18446744073709551618 { at 5 }": 1, "repeat { at 5 }": 1, "repeat 2": 2, "repeat 2 at 5": 2, "repeat 2 ; at 5": 2, "repeat 2 }": 2, "repeat 2 {at 5}": 2, "repeat 2  { at 5 }": 2, "repeat 2 {": 3, "repeat 2 { ": 3, "repeat 2 { }": 3, "repeat 2 { ; at 5 }": 3, "repeat 2 { { at 5 }": 3, "repeat 2 { at 5": 5, "repeat 2 { at 5 ": 5, "repeat 2 { at 5 ;": 6, "repeat 2 { at 5 ; }": 6, "repeat 2 { at 5}": 4, "repeat 2 { at 5 at 6 }": 5, "repeat 2 { at 5 } }": 6, "repeat 2 { at 5 } at 6": 6, "repeat 2 { at 5 } ;": 7, "repeat 2 { at 5 } ": 6, "repeat 2 { at 5 };": 5, "repeat 2 { at 5 } ; }": 7,
		// conditions
		"in": 1, "in ": 1, "in 8 1-2 { at 5 }": 1, "in -1 1-2 { at 5 }": 1, "in 2,1 1-2 { at 5 }": 1, "in 1,1 1-2 { at 5 }": 1, "in 0,2,1 1-2 { at 5 }": 1, "in 0,7,8 1-2 { at 5 }": 1, "in 01 1-2 { at 5 }": 1, "in +1 1-2 { at 5 }": 1, "in 1, 1-2 { at 5 }": 1, "in ,1 1-2 { at 5 }": 1, "in , 1-2 { at 5 }": 1, "in 1,,2 1-2 { at 5 }": 1, "in 0-1 1-2 { at 5 }": 1, "in 1;2 1-2 { at 5 }": 1, "in x 1-2 { at 5 }": 1, "in  1 1-2 { at 5 }": 1, "in 64 1-2 { at 5 }": 1, "in 18446744073709551616 1-2 { at 5 }": 1, "in { at 5 }": 1, "in 1": 2, "in 1 ": 2, "in 1 { at 5 }": 2, "in 1 2 { at 5 }": 2, "in 1 2-2 { at 5 }": 2, "in 1 3-2 { at 5 }": 2, "in 1 1-25 { at 5 }": 2, "in 1 24-25 { at 5 }": 2, "in 1 24-24 { at 5 }": 2, "in 1 -1-2 { at 5 }": 2, "in 1 1-2,2-3 { at 5 }": 2, "in 1 1-3,2-4 { at 5 }": 2, "in 1 5-6,1-2 { at 5 }": 2, "in 1 1-2,1-2 { at 5 }": 2, "in 1 0-24,1-2 { at 5 }": 2, "in 1 1-5,2-3 { at 5 }": 2, "in 1 01-2 { at 5 }": 2, "in 1 1-02 { at 5 }": 2, "in 1 +1-2 { at 5 }": 2, "in 1 1- { at 5 }": 2, "in 1 - { at 5 }": 2, "in 1 1-2, { at 5 }": 2, "in 1 ,1-2 { at 5 }": 2, "in 1 1-2,,4-5 { at 5 }": 2, "in 1 1-2;4-5 { at 5 }": 2, "in 1 1-2-3 { at 5 }": 2, "in 1 1-18446744073709551618 { at 5 }": 2, "in 1 4294967297-4294967298 { at 5 }": 2, "in 1 1-2": 3, "in 1 1-2 at 5": 3, "in 1 1-2 4-5 { at 5 }": 3, "in 1 1-2 ; at 5": 3, "in 1 1-2 }": 3, "in 1 1-2 {": 4, "in 1 1-2 { }": 4, "in 1 1-2 { at 5": 6, "in 1 1-2 { at 5 } }": 7, "in 1 0-0 { at 5 }": 2, "in 1  1-2 { at 5 }": 2,
		// parts in each other
		"repeat 2 { repeat 2 { repeat 2 { repeat 2 { at 5 } } } }": 9, "repeat 2 { repeat 2 { repeat 2 { in 1 1-2 { at 5 } } } }": 9, "in 1 1-2 { in 1 1-2 { in 1 1-2 { in 1 1-2 { at 5 } } } }": 12, "in 1 1-2 { in 1 1-2 { in 1 1-2 { repeat 2 { at 5 } } } }": 12, "repeat 2 { repeat 2 { repeat 2 { at 5 ; repeat 2 { at 5 } } } }": 12, "repeat 2 { repeat 2 { at 5 } ; in 1 1-2 { repeat 3 { repeat 4": 17, "repeat 2 { repeat 2 { at 5 }": 9, "repeat 2 { repeat 2 { at 5 } } }": 10, "repeat 2 { repeat 2 { at 5 } at 6 }": 9, "repeat 2 { repeat 2 { } }": 6,
		// the first one counts
		"songs 1-2 ; spots": 0, "song 2-1 ; at 3600": 1, "at 3600 }": 1,
	} {
		refusesAt(t, s, word)
		checkParse(t, s)
	}
}

func TestTextsWithManyParts(t *testing.T) {
	const one = "at 5 ; "
	times := func(n int) string { return strings.Repeat(one, n) }
	for s, parts := range map[string]int{
		times(39) + "at 5":                                       40,
		times(38) + "repeat 2 { at 5 }":                          40,
		times(38) + "in 1 1-2 { at 5 }":                          40,
		times(37) + "repeat 2 { repeat 2 { at 5 } }":             40,
		"repeat 2 { " + times(38) + "at 5 }":                     40,
		"repeat 2 { " + times(37) + "at 5 } ; at 5":              40,
		"repeat 2 { repeat 3 { " + times(36) + "at 5 } ; at 5 }": 40,
	} {
		if l, n, e := format.Parse(s); len(l) != parts || n != strings.Count(s, " ")+1 || e != api.OK {
			t.Errorf("Parse(%q) = %d parts, %d, %d", s, len(l), n, e)
		}
		checkParse(t, s)
	}
	for s, word := range map[string]int{
		times(39) + "at 5 ; at 5":                         119,
		times(39) + "at 5 ;":                              119,
		times(39) + "repeat 2 { at 5 }":                   117,
		times(39) + "in 1 1-2 { at 5 }":                   117,
		times(38) + "repeat 2 { at 5 ; at 5 }":            119,
		times(38) + "repeat 2 { at 5 } ; at 5":            120,
		times(38) + "repeat 2 { repeat 2 { at 5 } }":      117,
		times(38) + "repeat 2 { in 1 1-2 { at 5 } }":      117,
		"repeat 2 { " + times(39) + "at 5 }":              3 + 116,
		"repeat 2 { " + times(38) + "repeat 2 { at 5 } }": 3 + 114,
		"repeat 2 { " + times(38) + "at 5 } ; at 5":       3 + 117,
		times(39) + "at 5 }":                              119,
		times(39) + "at 5 at 5":                           119,
		times(39):                                         117,
		times(39) + "at":                                  118,
		times(38) + "repeat 2 {":                          117,
		times(38) + "repeat 2 { at 5":                     119,
	} {
		refusesAt(t, s, word)
		checkParse(t, s)
	}
}

func TestLongTextsAreRefused(t *testing.T) {
	const many = 1000000
	for s, word := range map[string]int{
		strings.Repeat(" ", many):                               0,
		strings.Repeat("at 5 ; ", many):                         119,
		strings.Repeat("repeat 2 { ", many):                     9,
		strings.Repeat("{", many):                               0,
		"at " + strings.Repeat("0", many):                       1,
		"at " + strings.Repeat("9", many):                       1,
		"song 1-" + strings.Repeat("3", many):                   1,
		"song" + strings.Repeat(" 1-2", many):                   2,
		"song 1-2" + strings.Repeat("-2", many):                 1,
		"in " + strings.Repeat("0,", many) + "1 1-2 { at 5 }":   1,
		"in 1 " + strings.Repeat("0-1,", many) + "2-3 { at 5 }": 2,
		"repeat 2 { at 5" + strings.Repeat(" }", many):          6,
		"repeat 2 { at 5" + strings.Repeat(" ;", many):          6,
		strings.Repeat("\x00", many):                            0,
	} {
		if l, n, e := format.Parse(s); len(l) != 0 || n != word || e != api.ErrFormat {
			t.Errorf("Parse(%.20q...) = %v, %d, %d; want %d", s, l, n, e, word)
		}
	}
}

// TestEveryShortTextIsAsDefined tests all words after all beginnings of texts that consist of some words.
func TestEveryShortTextIsAsDefined(t *testing.T) {
	words := []string{"news", "at", "repeat", "in", "2", "0-1", "1-2", "{", "}", ";", ""}
	beginnings, accepted := [][]string{nil}, 0
	for range 12 {
		var longer [][]string
		for _, l := range beginnings {
			for _, word := range words {
				m := append(slices.Clone(l), word)
				if s := strings.Join(m, " "); checkParse(t, s) {
					accepted++
				}
				if isBeginning(m) {
					longer = append(longer, m)
				}
			}
		}
		beginnings = longer
	}
	if len(beginnings) < 100 || accepted < 100 {
		t.Errorf("%d beginnings, and %d texts", len(beginnings), accepted)
	}
}

// TestEveryEditOfATextIsAsDefined tests all texts that differ by one byte or one word from some texts of clocks.
func TestEveryEditOfATextIsAsDefined(t *testing.T) {
	const signs = " ,;-{}015a\x00"
	accepted := 0
	try := func(s string) {
		if checkParse(t, s) {
			accepted++
		}
	}
	for _, text := range []string{"in 1,3 6-9,11-12 { spot 30-60 } ; at 1800", "repeat 3 { at 5 ; jingle 10-20 }", "song 3599-3600"} {
		for i := 0; i <= len(text); i++ {
			for j := range len(signs) {
				try(text[:i] + signs[j:j+1] + text[i:])
				if i < len(text) {
					try(text[:i] + signs[j:j+1] + text[i+1:])
				}
			}
			try(text[:i])
			try(text[i:])
			if i < len(text) {
				try(text[:i] + text[i+1:])
			}
		}
	}
	words := strings.Split(exampleText, " ")
	for i := range words {
		try(strings.Join(slices.Delete(slices.Clone(words), i, i+1), " "))
		for _, word := range []string{"", ";", "{", "}", "at", "song", "repeat", "in", "2", "1-2", "at 5 ;", "; at 5", "repeat 2 {"} {
			try(strings.Join(slices.Insert(slices.Clone(words), i, word), " "))
			try(strings.Join(append(slices.Clone(words[:i]), append([]string{word}, words[i+1:]...)...), " "))
		}
	}
	if accepted < 100 {
		t.Errorf("only %d texts were accepted", accepted)
	}
}

// TestNumbersOfTexts tests all numbers around the limits in each place of a text.
func TestNumbersOfTexts(t *testing.T) {
	check := func(s string, want bool) {
		t.Helper()
		if _, _, e := format.Parse(s); (e == api.OK) != want {
			t.Errorf("Parse(%q): %d", s, e)
		}
	}
	for n := -2; n < 3700; n++ {
		text := strconv.Itoa(n)
		check("at "+text, n >= 0 && n <= 3599)
		check("song "+text+"-3600", n >= 1 && n <= 3600)
		check("news 1-"+text, n >= 1 && n <= 3600)
		check("talk "+text+"-1800", n >= 1 && n <= 1800)
		check("repeat "+text+" { at 5 }", n >= 2 && n <= 6)
		check("in "+text+" 1-2 { at 5 }", n >= 0 && n <= 7)
		check("in 1 "+text+"-24 { at 5 }", n >= 0 && n <= 23)
		check("in 1 0-"+text+" { at 5 }", n >= 1 && n <= 24)
	}
}

// P9.2: texts of clocks

func TestTextsOfAllRegionsAndHours(t *testing.T) {
	for set := 1; set < 256; set++ {
		checkText(t, []api.Part{where(set, set<<(set%17), 1), join(set)})
	}
	for set := 1; set < 1<<12; set++ {
		checkText(t, []api.Part{where(1, set, 1), join(1)})
		checkText(t, []api.Part{where(1, set<<12, 1), join(1)})
		checkText(t, []api.Part{where(1, set<<6|allHours&^0x3ffff, 1), join(1)})
	}
	for from := range 24 {
		for to := from + 1; to <= 24; to++ {
			hours := 1<<to - 1<<from
			checkText(t, []api.Part{where(2, hours, 1), join(1)})
			if hours != allHours {
				checkText(t, []api.Part{where(2, allHours-hours, 1), join(1)})
			}
		}
	}
}

func TestTextsOfAnyClock(t *testing.T) {
	r := rand.New(rand.NewSource(95))
	seen := map[string][]api.Part{}
	for range 20000 {
		l := anyClock(r)
		s := checkText(t, l)
		if m, ok := seen[s]; ok && !slices.Equal(l, m) {
			t.Fatalf("%q is the text of %v and of %v", s, l, m)
		}
		seen[s] = l
	}
}

func TestTextsOfWordsAreAsDefined(t *testing.T) {
	r := rand.New(rand.NewSource(96))
	words := []string{"song 1-2", "spot 30-60", "at 5", "at 3599", ";", ";", ";", "repeat 2 {", "in 0 0-1 {", "{", "}", "}", "}", "6", "at", ""}
	accepted := 0
	for range 4000 {
		l := strings.Split(definedText(anyClock(r)), " ")
		l = l[:min(len(l), 40)]
		for range r.Intn(3) {
			i, word := r.Intn(len(l)+1), words[r.Intn(len(words))]
			switch r.Intn(3) {
			case 0:
				l = slices.Insert(l, i, strings.Split(word, " ")...)
			case 1:
				l = l[:i]
			case 2:
				l = slices.Delete(l, i, min(i+1+r.Intn(3), len(l)))
			}
		}
		if checkParse(t, strings.Join(l, " ")) {
			accepted++
		}
	}
	if accepted < 400 || accepted > 3600 {
		t.Errorf("%d texts were accepted", accepted)
	}
}

func FuzzParse(f *testing.F) {
	for _, l := range clocks() {
		s, _ := format.Print(l)
		f.Add(s)
	}
	for _, s := range []string{"", "song 30-20", "song 20-30 ;", "repeat 2 { }", "in 1 1-2,2-3 { at 5 }"} {
		f.Add(s)
	}
	f.Fuzz(func(t *testing.T, s string) {
		checkParse(t, s)
	})
}
