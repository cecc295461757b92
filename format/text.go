package format

import (
	"math/bits"
	"strconv"
	"strings"

	"aircheck/api"
)

// The signs and words of the texts of clocks.
const (
	space      = " "
	between    = ";"
	open       = "{"
	shut       = "}"
	comma      = ","
	dash       = "-"
	joinWord   = "at"
	repeatWord = "repeat"
	whereWord  = "in"
)

// slotWords has the word of each kind of items, from KSong on.
var slotWords = [5]string{"song", "spot", "talk", "jingle", "news"}

// wordsOf returns the words of the text of l, which is the whole of some valid parts.
func wordsOf(l []api.Part) []string {
	var out []string
	for p, inside := range outermost(l) {
		k, _ := kindOf(p)
		if len(out) > 0 {
			out = append(out, between)
		}
		out = append(out, k.write(p)...)
		if k.holds {
			out = append(out, open)
			out = append(out, wordsOf(inside)...)
			out = append(out, shut)
		}
	}
	return out
}

// partOf returns the part whose first word this is, with what this word says of it; one of no kind if there is none.
func partOf(word string) api.Part {
	switch word {
	case joinWord:
		return api.Part{Kind: api.PartJoin}
	case repeatWord:
		return api.Part{Kind: api.PartRepeat}
	case whereWord:
		return api.Part{Kind: api.PartWhere}
	}
	for index, known := range slotWords {
		if known == word {
			return api.Part{Kind: api.PartSlot, A: api.KSong + index}
		}
	}
	return api.Part{}
}

func writeSlot(p api.Part) []string {
	return []string{slotWords[p.A-api.KSong], fromTo(p.B, p.C)}
}

func writeJoin(p api.Part) []string {
	return []string{joinWord, strconv.Itoa(p.A)}
}

func writeRepeat(p api.Part) []string {
	return []string{repeatWord, strconv.Itoa(p.A)}
}

func writeWhere(p api.Part) []string {
	return []string{whereWord, writeRegions(p.A), writeHours(p.B)}
}

func writeRegions(set int) string {
	var texts []string
	for region := range api.MaxRegions {
		if has(set, region) {
			texts = append(texts, strconv.Itoa(region))
		}
	}
	return strings.Join(texts, comma)
}

func writeHours(set int) string {
	var texts []string
	for end := 0; set>>end != 0; {
		first := end + bits.TrailingZeros(uint(set>>end))
		end = first + bits.TrailingZeros(^uint(set>>first))
		texts = append(texts, fromTo(first, end))
	}
	return strings.Join(texts, comma)
}

// readRegions is the inverse of writeRegions; false if no regions are written as word.
func readRegions(word string) (int, bool) {
	set := 0
	for text := range strings.SplitSeq(word, comma) {
		region, ok := readNumber(text, 0, api.MaxRegions-1)
		// A bit that is greater than this one is that of a region which has to come later.
		if !ok || set>>region != 0 {
			return 0, false
		}
		set |= 1 << region
	}
	return set, true
}

// readHours is the inverse of writeHours; false if no hours are written as word.
func readHours(word string) (int, bool) {
	set, last := 0, -1
	for text := range strings.SplitSeq(word, comma) {
		first, end, ok := readFromTo(text, 0, hoursOfDay)
		// A run that follows the one before it without a gap would make one longer run with it.
		if !ok || first == end || first <= last {
			return 0, false
		}
		set, last = set|(1<<end-1<<first), end
	}
	return set, true
}

func fromTo(from, end int) string {
	return strconv.Itoa(from) + dash + strconv.Itoa(end)
}

// readFromTo is the inverse of fromTo for numbers from least to most, in order; false if no such numbers are written as text.
func readFromTo(text string, least, most int) (int, int, bool) {
	before, after, _ := strings.Cut(text, dash)
	from, isFrom := readNumber(before, least, most)
	end, isEnd := readNumber(after, from, most)
	return from, end, isFrom && isEnd
}

// readNumber returns the number from least to most that is written as text, and whether there is one. Other spellings of a number, such as 01, are none.
func readNumber(text string, least, most int) (int, bool) {
	n, err := strconv.Atoi(text)
	if err != nil || n < least || n > most || strconv.Itoa(n) != text {
		return 0, false
	}
	return n, true
}

// has reports whether the bit with the number n is 1 in set.
func has(set, n int) bool {
	return set>>n&1 == 1
}
