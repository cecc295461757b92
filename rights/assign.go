package rights

import (
	"iter"
	"slices"

	"aircheck/api"
)

// choicesOf returns, for each of the valid uses, the indices of the grants of l that permit it.
func choicesOf(l []api.Grant, uses []api.Use) [][]int {
	var out [][]int
	for _, u := range uses {
		out = append(out, Permits(l, u))
	}
	return out
}

// canAssign reports whether each use can be given a grant of l that is one of its choices, and no grant to more uses than it has plays.
func canAssign(l []api.Grant, choices [][]int) bool {
	given := make([][]int, len(l)) // the uses that each grant is given
	for use := range choices {
		// A grant is tried once for each use: what did not free one of its plays before would not do so again.
		tried := make([]bool, len(l))
		var give func(use int) bool
		give = func(use int) bool {
			for _, index := range choices[use] {
				if tried[index] {
					continue
				}
				tried[index] = true
				if len(given[index]) < l[index].Plays {
					given[index] = append(given[index], use)
					return true
				}
				for k, other := range given[index] {
					if give(other) {
						given[index][k] = use
						return true
					}
				}
			}
			return false
		}
		if !give(use) {
			return false
		}
	}
	return true
}

// sets yields the sets of the numbers below n that are not empty, each ascending, those with fewer elements first and those with as many in lexicographic order. Each set is new memory.
func sets(n int) iter.Seq[[]int] {
	return func(yield func([]int) bool) {
		// extend yields the sets that begin with set and have more elements after it, and reports whether to go on.
		var extend func(set []int, first, more int) bool
		extend = func(set []int, first, more int) bool {
			if more == 0 {
				return yield(slices.Clone(set))
			}
			for k := first; k <= n-more; k++ {
				if !extend(append(set, k), k+1, more-1) {
					return false
				}
			}
			return true
		}
		for size := 1; size <= n; size++ {
			if !extend(nil, 0, size) {
				return
			}
		}
	}
}

// lacks reports whether the grants of l that permit at least one of the valid uses of the set have fewer plays than the set has uses.
func lacks(l []api.Grant, uses []api.Use, set []int) bool {
	plays := 0
	for _, g := range l {
		if slices.ContainsFunc(set, func(use int) bool { return permits(g, uses[use]) }) {
			plays += g.Plays
		}
	}
	return plays < len(set)
}
