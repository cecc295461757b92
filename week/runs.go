package week

import (
	"iter"
	"math/bits"

	"aircheck/api"
)

// has reports whether the bit with the number n is 1 in set.
func has(set, n int) bool {
	return set>>n&1 == 1
}

// run returns the set of the bits from the number from on, up to but not including to.
func run(from, to int) int {
	return 1<<to - 1<<from
}

// runs yields the longest runs of bits that are 1 in set, which is not negative, in order: the number of the first bit of each, and that of its last bit plus 1.
func runs(set int) iter.Seq2[int, int] {
	return func(yield func(int, int) bool) {
		for end := 0; set>>end != 0; {
			from := end + bits.TrailingZeros(uint(set>>end))
			end = from + bits.TrailingZeros(^uint(set>>from))
			if !yield(from, end) {
				return
			}
		}
	}
}

// pieces yields, in order, spells that together are what the valid week w has of the valid spell s. Two of them meet only at midnight.
func pieces(w api.Week, s api.Spell) iter.Seq[api.Spell] {
	return func(yield func(api.Spell) bool) {
		for day := s.From / api.DaySeconds; day*api.DaySeconds < s.To; day++ {
			midnight := day * api.DaySeconds
			for from, to := range runs(w[day%len(w)]) {
				p := api.Spell{
					From: max(s.From, midnight+from*api.HourSeconds),
					To:   min(s.To, midnight+to*api.HourSeconds),
				}
				if p.From < p.To && !yield(p) {
					return
				}
			}
		}
	}
}
