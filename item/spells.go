package item

import (
	"aircheck/api"
	"aircheck/wire"
)

// over goes through the spells in order, and returns what step has made of start with all of them.
func over[T any](spells []api.Spell, start T, step func(T, api.Spell) T) T {
	for _, s := range spells {
		start = step(start, s)
	}
	return start
}

// areParts reports whether the spells are parts of a recording of this length, of which each begins where the one before it ends, or later.
func areParts(spells []api.Spell, length int) bool {
	end := 0
	return over(spells, true, func(ok bool, s api.Spell) bool {
		ok = ok && end <= s.From && s.From < s.To && s.To <= length
		end = s.To
		return ok
	})
}

// before returns how many seconds of a recording come before a second of it when the parts gone are left out.
func before(second int, gone []api.Spell) int {
	return over(gone, second, func(n int, s api.Spell) int {
		return n - min(max(second-s.From, 0), s.To-s.From)
	})
}

// extend returns spells with s after them; an s without seconds adds nothing, and where it begins as the last one ends, the two become one.
func extend(spells []api.Spell, s api.Spell) []api.Spell {
	if s.From == s.To {
		return spells
	}
	if last := len(spells) - 1; last >= 0 && spells[last].To == s.From {
		spells[last].To = s.To
		return spells
	}
	return append(spells, s)
}

// putInts returns the encodings of small numbers, one after the other.
func putInts(numbers ...int) string {
	out := ""
	for _, n := range numbers {
		// No error: the numbers of a valid item are far from the bounds of what can be encoded.
		text, _ := wire.PutInt(n)
		out += text
	}
	return out
}

// putSpells returns the encoding of the number of spells, and those of the seconds of each.
func putSpells(spells []api.Spell) string {
	return over(spells, putInts(len(spells)), func(out string, s api.Spell) string {
		return out + putInts(s.From, s.To)
	})
}
