package fit

import "aircheck/api"

// never is more than any choice costs: what it costs if none fits.
const never = latest + 1

// best returns the lengths of the best choice for the valid pieces l, of which the first one begins at the second at, and its cost; or ErrFit if no choice fits.
func best(l []api.Piece, at, total int) ([]int, int, api.Errno) {
	cost := costs(l, total)
	least := cost(0, at)
	if least == never {
		return nil, 0, api.ErrFit
	}
	var out []int
each:
	for index, p := range l {
		for _, length := range p.Lengths {
			// Lengths ascend, so the first one that still leads to the least cost is that of the best choice.
			if costOf(p, length)+cost(index+1, at+length) == cost(index, at) {
				out = append(out, length)
				at += length
				continue each
			}
		}
	}
	return out, least, api.OK
}

// costs returns a function that returns the least cost of a choice for the pieces from an index of l on that fits if the first of them begins at the second at; never if there is none.
func costs(l []api.Piece, total int) func(index, at int) int {
	// What has been found for each index and second, plus 1, so that 0 says that it has not been looked for.
	found := make([]int, len(l)*(total+1))
	var cost func(index, at int) int
	cost = func(index, at int) int {
		switch {
		case index == len(l) && at == total:
			return 0
		case index == len(l) || at > total || !meets(l[index], at):
			return never
		}
		place := index*(total+1) + at
		if found[place] > 0 {
			return found[place] - 1
		}
		least := never
		for _, length := range l[index].Lengths {
			least = min(least, costOf(l[index], length)+cost(index+1, at+length))
		}
		found[place] = least + 1
		return least
	}
	return cost
}
