package format

import (
	"strings"

	"aircheck/api"
)

// wrongWord is what the methods of a reader panic with.
const wrongWord = "a word is wrong"

// reader reads the words of a text one after the other, and makes parts of them. Its methods panic at the first word that is wrong: one with which the text of no valid clock begins.
type reader struct {
	// parts has the parts that were read, up to the one that is being read.
	parts []api.Part
	// right is how many words were read and are right.
	right int
	// rest is the text from the next word on, if there are more words.
	rest string
	more bool
}

// word returns the next word, without a step beyond it.
func (r *reader) word() string {
	if !r.more {
		panic(wrongWord)
	}
	word, _, _ := strings.Cut(r.rest, space)
	return word
}

// pass goes on to the word after the next one, if this is right.
func (r *reader) pass(isRight bool) {
	if !isRight {
		panic(wrongWord)
	}
	_, r.rest, r.more = strings.Cut(r.rest, space)
	r.right++
}

// list reads parts with so many parts around them, up to the end that they have in common.
func (r *reader) list(around int) {
	r.part(around)
	for r.goesOn(around) {
		r.part(around)
	}
}

// goesOn reads what follows a part with so many parts around it, and reports whether another part comes then.
func (r *reader) goesOn(around int) bool {
	if around == 0 && !r.more {
		return false
	}
	word := r.word()
	another := word == between && len(r.parts) < api.MaxParts
	r.pass(another || word == shut && around > 0)
	return another
}

// part reads a part with so many parts around it, and its inside.
func (r *reader) part(around int) {
	p := partOf(r.word())
	k, ok := kindOf(p)
	// What has to have another part inside is wrong where there is no room for this one.
	r.pass(ok && (!k.holds || around < api.MaxNest && len(r.parts)+1 < api.MaxParts))
	k.read(r, &p)
	index := len(r.parts)
	r.parts = append(r.parts, p)
	if k.holds {
		r.pass(r.word() == open)
		r.list(around + 1)
		r.parts[index].Size = len(r.parts) - index - 1
	}
}

// value reads a word that stands for a number, by read.
func (r *reader) value(read func(word string) (int, bool)) int {
	n, ok := read(r.word())
	r.pass(ok)
	return n
}

// number reads a number from least to most.
func (r *reader) number(least, most int) int {
	return r.value(func(word string) (int, bool) { return readNumber(word, least, most) })
}

func readSlot(r *reader, p *api.Part) {
	least, most, ok := readFromTo(r.word(), 1, api.HourSeconds)
	r.pass(ok)
	p.B, p.C = least, most
}

func readJoin(r *reader, p *api.Part) {
	p.A = r.number(0, api.HourSeconds-1)
}

func readRepeat(r *reader, p *api.Part) {
	p.A = r.number(minTimes, api.MaxTimes)
}

func readWhere(r *reader, p *api.Part) {
	p.A = r.value(readRegions)
	p.B = r.value(readHours)
}
