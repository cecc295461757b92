package item

import (
	"iter"
	"slices"

	"aircheck/api"
)

// cuts yields all cuts of the valid item i, those with fewer trims first and those with as many in lexicographic order, each with the length of the shortened item. Each cut is new memory.
func cuts(i api.Item) iter.Seq2[[]int, int] {
	return func(yield func([]int, int) bool) {
		queue := [][]int{nil}
		for len(queue) > 0 {
			cut := queue[0]
			// No error: a cut of i is made only of indices of its trims.
			length, _ := Length(i, cut)
			if !yield(cut, length) {
				return
			}
			queue = append(queue[1:], longer(cut, len(i.Trims))...)
		}
	}
}

// longer returns, in order, the cuts that have one index after those of cut, of an item with this many trims.
func longer(cut []int, trims int) [][]int {
	first := 0
	if len(cut) > 0 {
		first = cut[len(cut)-1] + 1
	}
	var out [][]int
	for index := first; index < trims; index++ {
		out = append(out, append(slices.Clone(cut), index))
	}
	return out
}

// leftOut returns the trims of i that the cut leaves out, in order, and whether i is valid and cut is a cut of it.
func leftOut(i api.Item, cut []int) ([]api.Spell, bool) {
	if !Valid(i) {
		return nil, false
	}
	var out []api.Spell
	first := 0
	for _, index := range cut {
		if index < first || index >= len(i.Trims) {
			return nil, false
		}
		out = append(out, i.Trims[index])
		first = index + 1
	}
	return out, true
}
