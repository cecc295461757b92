package integer

import (
	"cmp"
	"slices"
	"sort"
	"strconv"
	"strings"
)

// A group is groupDigits digits: a number less than base.
const (
	groupDigits = 4
	base        = 10000
)

// magnitude is a number without a sign: its groups, the lowest one first, and no zeros above the highest one that is not zero. It is never changed.
type magnitude []int

// fold returns what add makes of sum and the elements of l, one after the other.
func fold[Element, Result any](l []Element, sum Result, add func(Result, Element) Result) Result {
	for _, x := range l {
		sum = add(sum, x)
	}
	return sum
}

// greatest returns the greatest number from low to high that fits, by a binary search. low fits, and so does whatever is less than a number that fits.
func greatest(low, high int, fits func(int) bool) int {
	return low + sort.Search(high-low, func(n int) bool { return !fits(low + n + 1) })
}

// magnitudeOf returns the number with the digits.
func magnitudeOf(digits string) magnitude {
	var groups []int
	for to := len(digits); to > 0; to -= groupDigits {
		part := []byte(digits[max(0, to-groupDigits):to])
		groups = append(groups, fold(part, 0, func(sum int, digit byte) int { return 10*sum + int(digit-'0') }))
	}
	return trimmed(groups)
}

// trimmed returns the groups without the zeros above the highest one that is not zero.
func trimmed(groups []int) magnitude {
	n := len(groups)
	for n > 0 && groups[n-1] == 0 {
		n--
	}
	return groups[:n]
}

// carried returns the number with the columns, which are like groups, but may be of any size, also negative. The number is not negative, and less than base to the power of how many they are.
func carried(columns []int) magnitude {
	groups := make([]int, 0, len(columns))
	fold(columns, 0, func(carry, column int) int {
		sum := carry + column
		group := (sum%base + base) % base
		groups = append(groups, group)
		return (sum - group) / base
	})
	return trimmed(groups)
}

// digits returns the digits of m: 0 if it is zero.
func (m magnitude) digits() string {
	if m.isZero() {
		return "0"
	}
	var out strings.Builder
	top := len(m) - 1
	out.WriteString(strconv.Itoa(m[top]))
	for _, group := range slices.Backward(m[:top]) {
		// The 1 of the base keeps the zeros that a group begins with.
		out.WriteString(strconv.Itoa(base + group)[1:])
	}
	return out.String()
}

func (m magnitude) isZero() bool {
	return len(m) == 0
}

// compare returns -1 if m is less than other, 1 if it is greater, and 0 if they are equal.
func (m magnitude) compare(other magnitude) int {
	if len(m) != len(other) {
		return cmp.Compare(len(m), len(other))
	}
	for i, group := range slices.Backward(m) {
		if group != other[i] {
			return cmp.Compare(group, other[i])
		}
	}
	return 0
}

func (m magnitude) plus(other magnitude) magnitude {
	columns := make([]int, max(len(m), len(other))+1)
	copy(columns, m)
	for i, group := range other {
		columns[i] += group
	}
	return carried(columns)
}

// minus returns m less other, which is at most m.
func (m magnitude) minus(other magnitude) magnitude {
	columns := slices.Clone(m)
	for i, group := range other {
		columns[i] -= group
	}
	return carried(columns)
}

func (m magnitude) times(other magnitude) magnitude {
	columns := make([]int, len(m)+len(other))
	for i, x := range m {
		for j, y := range other {
			columns[i+j] += x * y
		}
	}
	return carried(columns)
}

// timesGroup returns the product of m and a group.
func (m magnitude) timesGroup(group int) magnitude {
	return m.times(trimmed([]int{group}))
}

// over returns the quotient and the remainder of m by divisor, which is not zero.
func (m magnitude) over(divisor magnitude) (magnitude, magnitude) {
	// The highest groups of m are less than the divisor as long as they are fewer: the quotient begins behind them.
	begin := max(0, len(m)-len(divisor)+1)
	quotient := make([]int, begin)
	rest := m[begin:]
	multiple := divisor.timesGroup
	for i, group := range slices.Backward(m[:begin]) {
		rest = trimmed(slices.Concat([]int{group}, rest))
		low, high := rest.quotientBounds(divisor)
		quotient[i] = greatest(low, high, func(g int) bool { return multiple(g).compare(rest) <= 0 })
		rest = rest.minus(multiple(quotient[i]))
	}
	return trimmed(quotient), rest
}

// quotientBounds returns two groups between which the quotient of m by divisor is, where that is less than base. They follow from the two highest groups of the divisor, and so are close to each other: few multiples have to be tried.
func (m magnitude) quotientBounds(divisor magnitude) (int, int) {
	from := max(0, len(divisor)-2)
	dividing, divided := divisor.above(from), m.above(from)
	return divided / (dividing + 1), min(base-1, divided/dividing)
}

// above returns the number that the groups of m from the index from on make, which are at most three.
func (m magnitude) above(from int) int {
	n := 0
	for _, group := range slices.Backward(m[min(from, len(m)):]) {
		n = base*n + group
	}
	return n
}

// gcd returns the greatest common divisor, by Euclid's algorithm.
func (m magnitude) gcd(other magnitude) magnitude {
	for !other.isZero() {
		_, rest := m.over(other)
		m, other = other, rest
	}
	return m
}

// root returns the greatest number whose square is at most m, group by group from the highest one on.
func (m magnitude) root() magnitude {
	root := make([]int, (len(m)+1)/2)
	for i := len(root) - 1; i >= 0; i-- {
		root[i] = greatest(0, base-1, func(g int) bool {
			root[i] = g
			return trimmed(root).square().compare(m) <= 0
		})
	}
	return trimmed(root)
}

func (m magnitude) square() magnitude {
	return m.times(m)
}
