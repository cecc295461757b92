package integer

import (
	"strings"

	"aircheck/api"
)

// number is an integer of any size. 0 is not negative.
type number struct {
	negative bool
	size     magnitude
}

// signed returns the number with the sign and the size, which for 0 has no sign.
func signed(negative bool, size magnitude) number {
	return number{negative: negative && !size.isZero(), size: size}
}

// parse returns the number s, or false if s is not valid.
func parse(s string) (number, bool) {
	if !Valid(s) {
		return number{}, false
	}
	digits := strings.TrimPrefix(s, "-")
	return signed(len(digits) < len(s), magnitudeOf(digits)), true
}

// parseBoth returns the numbers a and b, or false if one of them is not valid.
func parseBoth(a, b string) (number, number, bool) {
	x, okX := parse(a)
	y, okY := parse(b)
	return x, y, okX && okY
}

// text returns the integer that stands for n, or ErrInteger if n has too many digits.
func (n number) text() (string, api.Errno) {
	s := n.size.digits()
	if n.negative {
		s = "-" + s
	}
	if !Valid(s) {
		return "", api.ErrInteger
	}
	return s, api.OK
}

func (n number) isZero() bool {
	return n.size.isZero()
}

// opposite returns the number that makes 0 with n.
func (n number) opposite() number {
	return signed(!n.negative, n.size)
}

// compare returns -1, 0 or 1: the sign of the difference.
func (n number) compare(other number) int {
	switch d := n.minus(other); {
	case d.isZero():
		return 0
	case d.negative:
		return -1
	}
	return 1
}

func (n number) plus(other number) number {
	switch {
	case n.negative == other.negative:
		return signed(n.negative, n.size.plus(other.size))
	case n.size.compare(other.size) < 0:
		return signed(other.negative, other.size.minus(n.size))
	}
	return signed(n.negative, n.size.minus(other.size))
}

func (n number) minus(other number) number {
	return n.plus(other.opposite())
}

func (n number) times(other number) number {
	return signed(n.negative != other.negative, n.size.times(other.size))
}

// over returns the quotient and the remainder of n by other, which is not 0.
func (n number) over(other number) (number, number) {
	quotient, rest := n.size.over(other.size)
	if n.negative && !rest.isZero() {
		// The rest of a negative number is missing, not left: one more divisor makes it good.
		quotient = quotient.plus(magnitude{1})
		rest = other.size.minus(rest)
	}
	return signed(n.negative != other.negative, quotient), signed(false, rest)
}

// gcd returns the greatest common divisor.
func (n number) gcd(other number) number {
	return signed(false, n.size.gcd(other.size))
}
