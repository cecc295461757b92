package rational

import (
	"strings"

	"aircheck/api"
	"aircheck/integer"
)

// step is a part of a calculation: it makes a fraction of the one that the step before it left. Between the steps, fractions need not be valid.
type step func(api.Ratio) (api.Ratio, api.Errno)

// operation makes an integer of two others.
type operation func(string, string) (string, api.Errno)

// build returns what the steps make of r, one after the other, or ErrRational if one of them failed. After that one, all others are skipped.
func build(r api.Ratio, steps ...step) (api.Ratio, api.Errno) {
	err := api.OK
	for _, next := range steps {
		if r, err = next(r); err != api.OK {
			return api.Ratio{}, api.ErrRational
		}
	}
	return r, api.OK
}

// areValid is the step that fails if an operand is not valid.
func areValid(operands ...api.Ratio) step {
	return func(r api.Ratio) (api.Ratio, api.Errno) {
		for _, operand := range operands {
			if !Valid(operand) {
				return r, api.ErrRational
			}
		}
		return r, api.OK
	}
}

// multiply is the step that multiplies Num by num and Den by den.
func multiply(num, den string) step {
	return func(r api.Ratio) (api.Ratio, api.Errno) {
		n, err := integer.Mul(r.Num, num)
		if err != api.OK {
			return r, err
		}
		d, err := integer.Mul(r.Den, den)
		return api.Ratio{Num: n, Den: d}, err
	}
}

// combine is the step that replaces Num by what the operation makes of it and the product of x and y.
func combine(operate operation, x, y string) step {
	return func(r api.Ratio) (api.Ratio, api.Errno) {
		product, err := integer.Mul(x, y)
		if err != api.OK {
			return r, err
		}
		n, err := operate(r.Num, product)
		return api.Ratio{Num: n, Den: r.Den}, err
	}
}

// reduce is the step that brings the fraction to lowest terms, with a positive Den. It fails if Den is 0.
func reduce(r api.Ratio) (api.Ratio, api.Errno) {
	gcd, err := integer.Gcd(r.Num, r.Den)
	if err != api.OK || r.Den == "0" {
		return r, api.ErrRational
	}
	if integer.Compare(r.Den, "0") < 0 {
		// A negative divisor changes the signs of both.
		gcd = "-" + gcd
	}
	// No errors: the quotients are as near to 0 as what is divided, or nearer.
	n, _, _ := integer.Div(r.Num, gcd)
	d, _, _ := integer.Div(r.Den, gcd)
	return api.Ratio{Num: n, Den: d}, api.OK
}

// floor is the step that leaves the greatest integer that is at most the fraction.
func floor(r api.Ratio) (api.Ratio, api.Errno) {
	quotient, _, err := integer.Div(r.Num, r.Den)
	return api.Ratio{Num: quotient, Den: "1"}, err
}

// ceiling is the step that leaves the smallest integer that is at least the fraction.
func ceiling(r api.Ratio) (api.Ratio, api.Errno) {
	quotient, rest, err := integer.Div(r.Num, r.Den)
	if err == api.OK && rest != "0" {
		quotient, err = integer.Add(quotient, "1")
	}
	return api.Ratio{Num: quotient, Den: "1"}, err
}

// sum returns what the operation, which is that of a sum or a difference, makes of a and b.
func sum(a, b api.Ratio, operate operation) (api.Ratio, api.Errno) {
	return build(a, areValid(a, b), multiply(b.Den, b.Den), combine(operate, b.Num, a.Den), reduce)
}

// round returns r rounded to so many decimal places; whole is the step that rounds to an integer.
func round(r api.Ratio, places int, whole step) (api.Ratio, api.Errno) {
	if places < 0 || places > api.MaxPlaces {
		return api.Ratio{}, api.ErrRational
	}
	scale := "1" + strings.Repeat("0", places)
	return build(r, areValid(r), multiply(scale, "1"), whole, multiply("1", scale), reduce)
}

// order returns -1, 0 or 1, as Compare does for valid fractions. It is Euclid's algorithm on both at once, since the products of nums and dens can have too many digits.
func order(a, b api.Ratio) int {
again:
	wholeA, restA, _ := integer.Div(a.Num, a.Den)
	wholeB, restB, _ := integer.Div(b.Num, b.Den)
	switch {
	case wholeA != wholeB:
		return integer.Compare(wholeA, wholeB)
	case restA == "0" || restB == "0":
		return integer.Compare(restA, restB)
	}
	// The one with the smaller reciprocal of what is left is greater: they change places.
	a, b = api.Ratio{Num: b.Den, Den: restB}, api.Ratio{Num: a.Den, Den: restA}
	goto again
}
