package fit

import (
	"iter"
	"math/bits"

	"aircheck/api"
)

const (
	wordBits = 64
	// latest is the greatest second at which the end after all pieces can be.
	latest = api.MaxPieces * api.MaxTotal
)

// seconds is a set of seconds from 0 to latest: the bit at % wordBits of the word at / wordBits says whether the second at is in it.
type seconds [latest/wordBits + 1]uint64

// turn is a piece, or the end after all pieces, that comes next.
type turn struct {
	could seconds // when it could begin if it had no Join
	join  int
}

// turns yields, for each index of the valid pieces l and then for the end, whose Join is end, the turn of it. Pieces meet their joins; after one that cannot, nothing can begin.
func turns(l []api.Piece, end int) iter.Seq2[int, turn] {
	return func(yield func(int, turn) bool) {
		could := seconds{}.with(0)
		for index, p := range l {
			next := turn{could, p.Join}
			if !yield(index, next) {
				return
			}
			could = next.begins().after(p.Lengths)
		}
		yield(len(l), turn{could, end})
	}
}

// begins returns when it can begin with its Join.
func (t turn) begins() seconds {
	if t.join == noJoin {
		return t.could
	}
	if !t.could.has(t.join) {
		return seconds{}
	}
	return seconds{}.with(t.join)
}

func (s seconds) has(at int) bool {
	return s[at/wordBits]>>(at%wordBits)&1 == 1
}

func (s seconds) with(at int) seconds {
	s[at/wordBits] |= 1 << (at % wordBits)
	return s
}

func (s seconds) isEmpty() bool {
	return s == seconds{}
}

// after returns the seconds that come after those of s by one of these lengths.
func (s seconds) after(lengths []int) seconds {
	var out seconds
	for _, length := range lengths {
		words, rest := length/wordBits, length%wordBits
		low := uint64(0) // the word of s before the next one
		for index, word := range s[:len(s)-words] {
			out[index+words] |= word<<rest | low>>(wordBits-rest)
			low = word
		}
	}
	return out
}

// list returns the seconds of s, ascending.
func (s seconds) list() []int {
	var out []int
	for index, word := range s {
		for ; word != 0; word &= word - 1 {
			out = append(out, index*wordBits+bits.TrailingZeros64(word))
		}
	}
	return out
}
