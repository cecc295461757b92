package integer

import (
	"math"
	"math/big"
	"math/rand"
	"regexp"
	"strconv"
	"strings"
	"testing"

	"aircheck/api"
)

// greatestValid is the greatest valid integer.
var greatestValid = strings.Repeat("9", api.MaxDigits)

// grammar is what an integer is in the words of the chapter.
var grammar = regexp.MustCompile(`^(0|-?[1-9][0-9]*)$`)

// defined reports whether s is a valid integer.
func defined(s string) bool {
	return grammar.MatchString(s) && !strings.HasSuffix(s, "\n") && len(strings.TrimPrefix(s, "-")) <= 200
}

// power is the integer 1 with so many zeros.
func power(zeros int) string {
	return "1" + strings.Repeat("0", zeros)
}

// large returns the number s as the standard library has it.
func large(t testing.TB, s string) *big.Int {
	t.Helper()
	n, ok := new(big.Int).SetString(s, 10)
	if !ok {
		t.Fatalf("%q is no number", s)
	}
	return n
}

// fits returns the integer n, or ErrInteger if it has too many digits.
func fits(n *big.Int) (string, api.Errno) {
	if s := n.String(); defined(s) {
		return s, api.OK
	}
	return "", api.ErrInteger
}

// random returns an integer with so many digits, often with runs of zeros or nines, as they are where groups carry and borrow.
func random(r *rand.Rand, digits int) string {
	s := make([]byte, digits)
	for i := range s {
		s[i] = byte('0' + r.Intn(10))
	}
	for range r.Intn(3) {
		run := "0000000000009999999999999"[r.Intn(2)*12:][:12]
		copy(s[r.Intn(digits):], run[:1+r.Intn(12)])
	}
	if s[0] == '0' {
		s[0] = '1'
	}
	if r.Intn(2) == 0 {
		return "-" + string(s)
	}
	return string(s)
}

// anySize returns an integer with 1 to most digits; short and long ones are equally likely.
func anySize(r *rand.Rand, most int) string {
	if r.Intn(20) == 0 {
		return "0"
	}
	if r.Intn(2) == 0 {
		most = min(most, 12)
	}
	return random(r, 1+r.Intn(most))
}

// samples are integers of both signs: those around the places where a digit or a group is added, and around the limits of an int and of what is valid.
func samples() []string {
	sizes := []string{
		"2", "3", "7", "4999", "5000", "19998", "99980001", "99990000", "999900000000", "10000000000009999",
		"9223372036854775807", "9223372036854775808", "9223372036854775809", "18446744073709551616",
		greatestValid, greatestValid[1:] + "8", strings.Repeat("5", 200), "1" + strings.Repeat("9", 199),
	}
	for _, zeros := range []int{1, 3, 4, 5, 7, 8, 9, 12, 16, 20, 99, 100, 101, 196, 199} {
		sizes = append(sizes, greatestValid[:zeros], power(zeros), power(zeros)[:zeros]+"1")
	}
	r := rand.New(rand.NewSource(1))
	for _, digits := range []int{2, 6, 11, 17, 30, 64, 98, 150, 200} {
		sizes = append(sizes, strings.TrimPrefix(random(r, digits), "-"))
	}
	out := []string{"0", "1", "-1"}
	for _, s := range sizes {
		out = append(out, s, "-"+s)
	}
	return out
}

// invalid are strings that are no valid integers, each with something else that is wrong.
func invalid() []string {
	out := []string{
		"", "-", "--", "-0", "+0", "+1", "00", "-00", "000", "01", "-01", "007", "-007", "0000000001", "--1", "-+1", "1-", "1-1", "0-",
		" ", " 1", "1 ", "- 1", "-1 ", "1 000", "1\n", "\n1", "0\n", "\t1", "1\x00", "\x001", "\x00",
		"0x1", "0b1", "0o7", "1e3", "1_000", "1,000", "1.0", "1.", ".1", "1/1", "a", "A", "Inf", "-Inf", "NaN", "nil",
		"/", ":", "1/", "1:", "/1", ":1", "9:", "-/", "-:",
		"٣", "１", "1１", "−1", "²", "1²", "\xff", "1\xff", "\xff1", "1\xe2\x88", "\u200b1", "1\u0660",
		greatestValid + "9", "-" + greatestValid + "9", power(200), "-" + power(200), strings.Repeat("0", 200), strings.Repeat("-", 200),
		strings.Repeat("0", 199) + "1", "0" + greatestValid, strings.Repeat("1", 100000), "-" + strings.Repeat("1", 100000), strings.Repeat("x", 100000),
	}
	for _, at := range []int{0, 1, 3, 4, 5, 99, 196, 198, 199} {
		for _, c := range []string{"/", ":", "-", " ", "x", "\x00", "\x80"} {
			if at > 0 || c != "-" {
				out = append(out, greatestValid[:at]+c+greatestValid[at+1:])
			}
		}
	}
	return out
}

// results returns what all functions of two arguments return for a and b, with their errors.
func results(a, b string) ([]string, []api.Errno) {
	sum, e := Add(a, b)
	difference, f := Sub(a, b)
	product, g := Mul(a, b)
	q, r, h := Div(a, b)
	gcd, i := Gcd(a, b)
	return []string{sum, difference, product, q, r, gcd}, []api.Errno{e, f, g, h, h, i}
}

// expected returns what results should return for two valid integers.
func expected(x, y *big.Int) ([]string, []api.Errno) {
	values := []*big.Int{new(big.Int).Add(x, y), new(big.Int).Sub(x, y), new(big.Int).Mul(x, y), nil, nil, gcdOf(x, y)}
	if y.Sign() != 0 {
		values[3], values[4] = new(big.Int).DivMod(x, y, new(big.Int))
	}
	texts, errors := make([]string, len(values)), make([]api.Errno, len(values))
	for i, value := range values {
		errors[i] = api.ErrInteger
		if value != nil {
			texts[i], errors[i] = fits(value)
		}
	}
	return texts, errors
}

// gcdOf is the greatest common divisor, not negative.
func gcdOf(x, y *big.Int) *big.Int {
	return new(big.Int).GCD(nil, nil, new(big.Int).Abs(x), new(big.Int).Abs(y))
}

// agree fails unless all functions of two arguments return for a and b what the standard library says.
func agree(t *testing.T, a, b string) {
	t.Helper()
	x, y := large(t, a), large(t, b)
	got, errors := results(a, b)
	want, wanted := expected(x, y)
	for i, name := range []string{"Add", "Sub", "Mul", "Div (quotient)", "Div (remainder)", "Gcd"} {
		if got[i] != want[i] || errors[i] != wanted[i] {
			t.Errorf("%s of %s and %s = %q, %d; want %q, %d", name, a, b, got[i], errors[i], want[i], wanted[i])
		}
	}
	if c := Compare(a, b); c != x.Cmp(y) {
		t.Errorf("Compare of %s and %s = %d", a, b, c)
	}
}

// must returns a result that is no error.
func must(t *testing.T) func(s string, e api.Errno) string {
	return func(s string, e api.Errno) string {
		t.Helper()
		if e != api.OK {
			t.Fatalf("error %d", e)
		}
		return s
	}
}

// P3.1

func TestValidOfExamples(t *testing.T) {
	for _, s := range []string{"0", "-7", "7", "9", "-9", "10", "-10", "100", "1000000", greatestValid, "-" + greatestValid, power(199), "-" + power(199)} {
		if !Valid(s) {
			t.Errorf("%q is not valid", s)
		}
	}
	for _, s := range samples() {
		if !Valid(s) {
			t.Errorf("%q is not valid", s)
		}
	}
	for _, s := range invalid() {
		if Valid(s) {
			t.Errorf("%q is valid", s)
		}
	}
}

func TestValidOfAllShortStrings(t *testing.T) {
	const letters = "\x00\n +-./0123456789:eEx_\x7f\x80\xb2\xd9\xff"
	check := func(s string) {
		if Valid(s) != defined(s) {
			t.Errorf("Valid(%q) = %v", s, Valid(s))
		}
	}
	for _, a := range []byte(letters) {
		for _, b := range []byte(letters) {
			for _, c := range []byte(letters) {
				check(string([]byte{a, b, c}))
				check(string([]byte{'-', a, b, c}))
			}
			check(string([]byte{a, b}))
		}
	}
	for c := range 256 {
		for _, s := range []string{"", "-", "1", "-1", "0", "12345"} {
			check(s + string([]byte{byte(c)}))
			check(string([]byte{byte(c)}) + s)
			check(s + string([]byte{byte(c)}) + s)
		}
	}
}

func TestValidOfEveryLength(t *testing.T) {
	for n := range 500 {
		for _, digit := range []string{"0", "1", "9"} {
			for _, sign := range []string{"", "-", "+"} {
				if s := sign + strings.Repeat(digit, n); Valid(s) != defined(s) {
					t.Errorf("Valid of %s and %d times %s = %v", sign, n, digit, Valid(s))
				}
			}
		}
	}
}

// ints are numbers of every number of bits and of digits, of both signs, and the limits.
func ints() []int {
	out := []int{0, math.MinInt, math.MinInt + 1, math.MaxInt, math.MaxInt - 1}
	for bit := range 63 {
		for near := -2; near <= 2; near++ {
			out = append(out, 1<<bit+near, -(1<<bit)+near)
		}
	}
	for p := 1; p <= math.MaxInt/10; p *= 10 {
		out = append(out, p, -p, p-1, 1-p, p+1, -p-1)
	}
	return out
}

func TestFromIntAndToInt(t *testing.T) {
	for _, c := range []struct {
		n int
		s string
	}{
		{0, "0"}, {1, "1"}, {-1, "-1"}, {10, "10"}, {-10000, "-10000"}, {9999, "9999"},
		{math.MaxInt, "9223372036854775807"}, {math.MinInt, "-9223372036854775808"},
	} {
		if s := FromInt(c.n); s != c.s {
			t.Errorf("FromInt(%d) = %q", c.n, s)
		}
	}
	for _, n := range ints() {
		s := FromInt(n)
		if s != big.NewInt(int64(n)).String() {
			t.Errorf("FromInt(%d) = %q", n, s)
		}
		if got, e := ToInt(s); got != n || e != api.OK {
			t.Errorf("ToInt(%q) = %d, %d", s, got, e)
		}
	}
}

func TestToIntRefuses(t *testing.T) {
	tooGreat := []string{"9223372036854775808", "-9223372036854775809", "9223372036854775809", "9223372036854775817", "10000000000000000000", "-10000000000000000000", "18446744073709551615", "18446744073709551616", "18446744073709551617", "-18446744073709551616", "36893488147419103232", greatestValid, "-" + greatestValid, power(199)}
	for _, s := range append(tooGreat, invalid()...) {
		if n, e := ToInt(s); n != 0 || e != api.ErrInteger {
			t.Errorf("ToInt(%q) = %d, %d", s, n, e)
		}
	}
}

func TestExamples(t *testing.T) {
	for _, c := range []struct {
		f          func(string, string) (string, api.Errno)
		a, b, want string
	}{
		{Add, "999", "1", "1000"}, {Sub, "1", "1000", "-999"}, {Mul, "-12", "12", "-144"}, {Gcd, "12", "-18", "6"},
		{Gcd, "0", "0", "0"}, {Gcd, "0", "-7", "7"}, {Gcd, "-7", "0", "7"}, {Gcd, "-1", "-1", "1"},
	} {
		if s, e := c.f(c.a, c.b); s != c.want || e != api.OK {
			t.Errorf("of %s and %s: %q, %d; want %s", c.a, c.b, s, e, c.want)
		}
	}
	for _, c := range []struct{ a, b, q, r string }{
		{"7", "2", "3", "1"}, {"-7", "2", "-4", "1"}, {"7", "-2", "-3", "1"}, {"-7", "-2", "4", "1"},
		{"6", "2", "3", "0"}, {"-6", "2", "-3", "0"}, {"6", "-2", "-3", "0"}, {"-6", "-2", "3", "0"},
		{"1", "2", "0", "1"}, {"-1", "2", "-1", "1"}, {"1", "-2", "0", "1"}, {"-1", "-2", "1", "1"},
		{"0", "2", "0", "0"}, {"0", "-2", "0", "0"}, {"-1", greatestValid, "-1", greatestValid[1:] + "8"},
	} {
		if q, r, e := Div(c.a, c.b); q != c.q || r != c.r || e != api.OK {
			t.Errorf("Div(%s, %s) = %q, %q, %d; want %s, %s", c.a, c.b, q, r, e, c.q, c.r)
		}
	}
}

func TestAllSmallNumbers(t *testing.T) {
	for a := -70; a <= 70; a++ {
		for b := -70; b <= 70; b++ {
			agree(t, strconv.Itoa(a), strconv.Itoa(b))
		}
	}
}

func TestAllSamples(t *testing.T) {
	for _, a := range samples() {
		for _, b := range samples() {
			agree(t, a, b)
		}
	}
}

func TestRandomNumbers(t *testing.T) {
	r := rand.New(rand.NewSource(2))
	for range 20000 {
		agree(t, anySize(r, api.MaxDigits), anySize(r, api.MaxDigits))
	}
}

// TestDivOfProducts divides numbers that are, or nearly are, multiples of the divisor: the estimates of a group of the quotient are least sure there.
func TestDivOfProducts(t *testing.T) {
	r := rand.New(rand.NewSource(3))
	for range 20000 {
		b, q := anySize(r, 100), anySize(r, 100)
		for near := int64(-1); near <= 1; near++ {
			a := new(big.Int).Mul(large(t, b), large(t, q))
			if s := a.Add(a, big.NewInt(near)).String(); defined(s) {
				agree(t, s, b)
			}
		}
	}
}

func TestInvalidArgumentsAreRefused(t *testing.T) {
	for _, bad := range invalid() {
		for _, other := range []string{"0", "1", "-1", "12345", greatestValid, "", "-0", bad} {
			for _, pair := range [][2]string{{bad, other}, {other, bad}} {
				texts, errors := results(pair[0], pair[1])
				for i := range texts {
					if texts[i] != "" || errors[i] != api.ErrInteger {
						t.Errorf("function %d of %.20q and %.20q: %q, %d", i, pair[0], pair[1], texts[i], errors[i])
					}
				}
				if c := Compare(pair[0], pair[1]); c != 0 {
					t.Errorf("Compare(%.20q, %.20q) = %d", pair[0], pair[1], c)
				}
			}
		}
		if s, e := Root(bad); s != "" || e != api.ErrInteger {
			t.Errorf("Root(%.20q) = %q, %d", bad, s, e)
		}
	}
}

func TestDivByZeroIsRefused(t *testing.T) {
	for _, a := range samples() {
		if q, r, e := Div(a, "0"); q != "" || r != "" || e != api.ErrInteger {
			t.Errorf("Div(%s, 0) = %q, %q, %d", a, q, r, e)
		}
	}
}

func TestResultsMayHave200Digits(t *testing.T) {
	least := "-" + greatestValid
	half := "4" + strings.Repeat("9", 199)
	for _, c := range []struct {
		f    func(string, string) (string, api.Errno)
		a, b string
		want string
	}{
		{Add, greatestValid, "0", greatestValid}, {Add, greatestValid, "-1", greatestValid[1:] + "8"}, {Add, greatestValid, "1", ""},
		{Add, least, "0", least}, {Add, least, "1", least[:200] + "8"}, {Add, least, "-1", ""}, {Add, greatestValid, least, "0"},
		{Add, greatestValid, greatestValid, ""}, {Add, least, least, ""}, {Add, half, half, greatestValid[1:] + "8"}, {Add, power(199), power(199), "2" + power(199)[1:]},
		{Sub, greatestValid, "0", greatestValid}, {Sub, greatestValid, "1", greatestValid[1:] + "8"}, {Sub, greatestValid, "-1", ""},
		{Sub, least, "1", ""}, {Sub, least, "-1", least[:200] + "8"}, {Sub, "0", greatestValid, least}, {Sub, "0", least, greatestValid},
		{Sub, "-1", greatestValid, ""}, {Sub, "-1", least, greatestValid[1:] + "8"}, {Sub, greatestValid, greatestValid, "0"}, {Sub, greatestValid, least, ""},
		{Mul, power(100), power(99), power(199)}, {Mul, power(100), power(100), ""}, {Mul, "-" + power(100), power(99), "-" + power(199)}, {Mul, power(100), "-" + power(100), ""},
		{Mul, power(199), "9", "9" + power(199)[1:]}, {Mul, power(199), "10", ""}, {Mul, strings.Repeat("1", 200), "9", greatestValid}, {Mul, strings.Repeat("1", 200), "-9", least},
		{Mul, greatestValid, "1", greatestValid}, {Mul, greatestValid, "-1", least}, {Mul, greatestValid, "2", ""}, {Mul, greatestValid, greatestValid, ""}, {Mul, greatestValid, "0", "0"},
		// A product of 101 digits and 101 digits has 201 or 202.
		{Mul, strings.Repeat("9", 101), strings.Repeat("9", 101), ""}, {Mul, strings.Repeat("3", 100), strings.Repeat("3", 100), strings.Repeat("1", 99) + "0" + strings.Repeat("8", 99) + "9"},
		{Gcd, greatestValid, "0", greatestValid}, {Gcd, "0", least, greatestValid}, {Gcd, least, least, greatestValid}, {Gcd, greatestValid, least[:200], "9"},
	} {
		wanted := api.OK
		if c.want == "" {
			wanted = api.ErrInteger
		}
		if s, e := c.f(c.a, c.b); s != c.want || e != wanted {
			t.Errorf("of %.9s.. (%d) and %.9s.. (%d): %q, %d; want %q", c.a, len(c.a), c.b, len(c.b), s, e, c.want)
		}
	}
	for _, c := range [][4]string{{greatestValid, "-1", least, "0"}, {least, "-1", greatestValid, "0"}, {least, "1", least, "0"}, {least, greatestValid, "-1", "0"}} {
		if q, r, e := Div(c[0], c[1]); q != c[2] || r != c[3] || e != api.OK {
			t.Errorf("Div(%.9s.., %.9s..) = %q, %q, %d", c[0], c[1], q, r, e)
		}
	}
}

// P3.2

// TestZeroHasNoSign has every way to a result of 0 from numbers with signs.
func TestZeroHasNoSign(t *testing.T) {
	for _, s := range samples() {
		opposite := must(t)(Sub("0", s))
		zeros := map[string]string{
			"sum": must(t)(Add(s, opposite)), "difference": must(t)(Sub(s, s)), "product": must(t)(Mul(s, "0")), "other product": must(t)(Mul("0", s)),
		}
		if s != "0" {
			q, r, _ := Div("0", s)
			_, none, _ := Div(s, "-1")
			_, self, _ := Div(s, s)
			zeros["quotient"], zeros["remainder"], zeros["remainder by -1"], zeros["remainder by itself"] = q, r, none, self
		}
		for name, zero := range zeros {
			if zero != "0" {
				t.Errorf("the %s of %s is %q", name, s, zero)
			}
		}
		if s != "0" && (!Valid(opposite) || opposite == s || must(t)(Sub("0", opposite)) != s) {
			t.Errorf("0 - %s = %q", s, opposite)
		}
	}
}

// TestOneIntegerForEachNumber reaches the same numbers in many ways, and finds the same strings.
func TestOneIntegerForEachNumber(t *testing.T) {
	is := must(t)
	for _, s := range samples() {
		same := map[string]string{
			"s + 0": is(Add(s, "0")), "0 + s": is(Add("0", s)), "s - 0": is(Sub(s, "0")), "s * 1": is(Mul(s, "1")), "1 * s": is(Mul("1", s)),
			"-1 * (0 - s)": is(Mul("-1", is(Sub("0", s)))), "0 - (0 - s)": is(Sub("0", is(Sub("0", s)))),
		}
		q, r, e := Div(s, "1")
		same["s / 1"] = q
		if !strings.HasPrefix(s, "-") {
			same["gcd of s and 0"] = is(Gcd(s, "0"))
		}
		if square, e := Mul(s, s); e == api.OK && !strings.HasPrefix(s, "-") {
			same["root of s * s"] = is(Root(square))
		}
		if n, e := ToInt(s); e == api.OK {
			same["from int"] = FromInt(n)
		}
		for way, got := range same {
			if got != s || r != "0" || e != api.OK {
				t.Errorf("%s: %s is %q", s, way, got)
			}
		}
		for _, other := range samples() {
			if (Compare(s, other) == 0) != (s == other) {
				t.Errorf("%s and %s: equal and the same are not the same", s, other)
			}
		}
	}
}

func TestResultsAreValid(t *testing.T) {
	r := rand.New(rand.NewSource(4))
	for range 5000 {
		a, b := anySize(r, api.MaxDigits), anySize(r, api.MaxDigits)
		texts, errors := results(a, b)
		for i := range texts {
			if Valid(texts[i]) != (errors[i] == api.OK) {
				t.Errorf("function %d of %s and %s: %q, %d", i, a, b, texts[i], errors[i])
			}
		}
		if root, e := Root(a); Valid(root) != (e == api.OK) {
			t.Errorf("Root(%s) = %q, %d", a, root, e)
		}
	}
}

// P3.3

func TestSumsAndProductsCommute(t *testing.T) {
	r := rand.New(rand.NewSource(5))
	for range 5000 {
		a, b := anySize(r, api.MaxDigits), anySize(r, api.MaxDigits)
		for i, f := range []func(string, string) (string, api.Errno){Add, Mul} {
			one, e := f(a, b)
			other, g := f(b, a)
			if one != other || e != g {
				t.Errorf("function %d of %s and %s: %q and %q", i, a, b, one, other)
			}
		}
	}
}

func TestSumsAndProductsAssociate(t *testing.T) {
	r := rand.New(rand.NewSource(6))
	is := must(t)
	for range 5000 {
		a, b, c := anySize(r, 199), anySize(r, 199), anySize(r, 199)
		if is(Add(is(Add(a, b)), c)) != is(Add(a, is(Add(b, c)))) {
			t.Errorf("the sum of %s, %s and %s", a, b, c)
		}
		a, b, c = anySize(r, 66), anySize(r, 66), anySize(r, 66)
		if is(Mul(is(Mul(a, b)), c)) != is(Mul(a, is(Mul(b, c)))) {
			t.Errorf("the product of %s, %s and %s", a, b, c)
		}
	}
}

func TestProductsDistribute(t *testing.T) {
	r := rand.New(rand.NewSource(7))
	is := must(t)
	for range 5000 {
		a, b, c := anySize(r, 99), anySize(r, 99), anySize(r, 99)
		if is(Mul(a, is(Add(b, c)))) != is(Add(is(Mul(a, b)), is(Mul(a, c)))) {
			t.Errorf("%s times the sum of %s and %s", a, b, c)
		}
		if is(Mul(is(Sub(b, c)), a)) != is(Sub(is(Mul(b, a)), is(Mul(c, a)))) {
			t.Errorf("%s times the difference of %s and %s", a, b, c)
		}
	}
}

func TestDifferenceIsWhatIsToBeAdded(t *testing.T) {
	r := rand.New(rand.NewSource(8))
	is := must(t)
	for range 5000 {
		a, b := anySize(r, 199), anySize(r, 199)
		if d := is(Sub(a, b)); is(Add(b, d)) != a || is(Sub(a, d)) != b || is(Sub("0", d)) != is(Sub(b, a)) {
			t.Errorf("%s - %s = %s", a, b, d)
		}
	}
}

// P3.4

func TestDivDivides(t *testing.T) {
	r := rand.New(rand.NewSource(9))
	is := must(t)
	check := func(a, b string) {
		q, rest, e := Div(a, b)
		if e != api.OK || is(Add(is(Mul(q, b)), rest)) != a {
			t.Fatalf("Div(%s, %s) = %s, %s, %d", a, b, q, rest, e)
		}
		size := strings.TrimPrefix(b, "-")
		if Compare(rest, "0") < 0 || Compare(rest, size) >= 0 {
			t.Errorf("Div(%s, %s): the remainder is %s", a, b, rest)
		}
		// The remainders of the quotients beside it are out of bounds.
		if Compare(is(Sub(rest, size)), "0") >= 0 || Compare(is(Add(rest, size)), size) < 0 {
			t.Errorf("Div(%s, %s): another remainder is in the bounds", a, b)
		}
	}
	for range 10000 {
		if a, b := anySize(r, 199), anySize(r, 199); b != "0" {
			check(a, b)
		}
	}
	for _, a := range samples() {
		for _, b := range samples() {
			if len(a) < 200 && len(b) < 200 && b != "0" {
				check(a, b)
			}
		}
	}
}

// P3.5

func TestGcdDividesBoth(t *testing.T) {
	r := rand.New(rand.NewSource(10))
	is := must(t)
	for range 3000 {
		a, b := anySize(r, 200), anySize(r, 200)
		if a == "0" && b == "0" {
			continue
		}
		gcd := is(Gcd(a, b))
		p, restA, e := Div(a, gcd)
		q, restB, f := Div(b, gcd)
		if e != api.OK || f != api.OK || restA != "0" || restB != "0" || Compare(gcd, "1") < 0 {
			t.Errorf("Gcd(%s, %s) = %s", a, b, gcd)
		}
		if is(Gcd(p, q)) != "1" || is(Gcd(b, a)) != gcd {
			t.Errorf("Gcd(%s, %s) = %s is not the greatest", a, b, gcd)
		}
	}
}

func TestCommonDivisorsDivideGcd(t *testing.T) {
	r := rand.New(rand.NewSource(11))
	is := must(t)
	for range 3000 {
		common, a, b := anySize(r, 100), anySize(r, 100), anySize(r, 100)
		if common == "0" {
			continue
		}
		gcd := is(Gcd(is(Mul(common, a)), is(Mul(common, b))))
		if _, rest, e := Div(gcd, common); rest != "0" || e != api.OK {
			t.Errorf("%s divides %s and %s times itself, but not %s", common, a, b, gcd)
		}
		if size := strings.TrimPrefix(common, "-"); gcd != is(Mul(size, is(Gcd(a, b)))) {
			t.Errorf("the greatest common divisor of %s and %s times %s is %s", a, b, common, gcd)
		}
	}
	for a := range 60 {
		for b := range 60 {
			gcd, _ := ToInt(is(Gcd(FromInt(a), FromInt(-b))))
			for c := 1; c < 60; c++ {
				if a%c == 0 && b%c == 0 && gcd%c != 0 {
					t.Errorf("%d divides %d and %d, but not %d", c, a, b, gcd)
				}
			}
		}
	}
}

// TestGcdOfFibonacciNumbers has the numbers for which Euclid's algorithm takes the most steps.
func TestGcdOfFibonacciNumbers(t *testing.T) {
	a, b := "0", "1"
	for {
		next, e := Add(a, b)
		if e != api.OK {
			break
		}
		a, b = b, next
	}
	if gcd, e := Gcd(a, b); len(b) != 200 || gcd != "1" || e != api.OK {
		t.Errorf("Gcd(%s, %s) = %s, %d", a, b, gcd, e)
	}
}

// P3.6

// checkRoot fails unless the square of Root of a is at most a, and the next square is greater.
func checkRoot(t *testing.T, a string) {
	t.Helper()
	s, e := Root(a)
	if e != api.OK || s != new(big.Int).Sqrt(large(t, a)).String() {
		t.Errorf("Root(%s) = %q, %d", a, s, e)
		return
	}
	root := large(t, s)
	next := new(big.Int).Add(root, big.NewInt(1))
	if root.Sign() < 0 || root.Mul(root, root).Cmp(large(t, a)) > 0 || next.Mul(next, next).Cmp(large(t, a)) <= 0 {
		t.Errorf("Root(%s) = %s", a, s)
	}
}

func TestRootOfSmallNumbers(t *testing.T) {
	for n := range 20000 {
		checkRoot(t, strconv.Itoa(n))
	}
	for n, want := range map[string]string{"0": "0", "1": "1", "3": "1", "4": "2", "99": "9", "100": "10"} {
		if s, e := Root(n); s != want || e != api.OK {
			t.Errorf("Root(%s) = %q, %d", n, s, e)
		}
	}
}

func TestRootAroundSquares(t *testing.T) {
	r := rand.New(rand.NewSource(12))
	roots := []string{greatestValid[:100], greatestValid[:99], power(99), power(98), power(50), "9999", "10000", "99999999", "100000000", "99990001"}
	for range 2000 {
		roots = append(roots, strings.TrimPrefix(anySize(r, 100), "-"))
	}
	for _, root := range roots {
		n := large(t, root)
		for near := int64(-1); near <= 1; near++ {
			square := new(big.Int).Mul(n, n)
			if square.Add(square, big.NewInt(near)); square.Sign() >= 0 {
				checkRoot(t, square.String())
			}
		}
	}
	for digits := 1; digits <= api.MaxDigits; digits++ {
		checkRoot(t, power(digits-1))
		checkRoot(t, greatestValid[:digits])
		checkRoot(t, strings.TrimPrefix(random(r, digits), "-"))
	}
}

func TestRootOfNegativeNumbersIsRefused(t *testing.T) {
	for _, a := range samples() {
		if s, e := Root(a); strings.HasPrefix(a, "-") && (s != "" || e != api.ErrInteger) {
			t.Errorf("Root(%s) = %q, %d", a, s, e)
		}
	}
}

// P3.7

func TestCompareIsKeptByAdding(t *testing.T) {
	r := rand.New(rand.NewSource(13))
	is := must(t)
	for range 5000 {
		a, b, c := anySize(r, 199), anySize(r, 199), anySize(r, 199)
		if r.Intn(4) == 0 {
			b = a
		}
		order := Compare(a, b)
		if Compare(is(Add(a, c)), is(Add(b, c))) != order || Compare(is(Sub(a, c)), is(Sub(b, c))) != order {
			t.Errorf("%s and %s, and %s", a, b, c)
		}
		if Compare(is(Sub(a, b)), "0") != order || Compare(is(Sub(b, a)), "0") != -order || Compare(b, a) != -order {
			t.Errorf("Compare(%s, %s) = %d is not the sign of the difference", a, b, order)
		}
	}
}

func TestCompareIsAnOrder(t *testing.T) {
	sorted := []string{"-" + greatestValid, "-" + power(199), "-" + strings.Repeat("9", 199), "-100000000", "-10001", "-10000", "-9999", "-10", "-9", "-2", "-1", "0", "1", "2", "9", "10", "9999", "10000", "10001", "20000", "100000000", "100000001", "100010000", strings.Repeat("9", 199), power(199), greatestValid}
	for i, a := range sorted {
		for j, b := range sorted {
			want := 0
			if i < j {
				want = -1
			} else if i > j {
				want = 1
			}
			if c := Compare(a, b); c != want {
				t.Errorf("Compare(%s, %s) = %d, want %d", a, b, c, want)
			}
		}
	}
	// The difference has more than 200 digits.
	if Compare(greatestValid, "-"+greatestValid) != 1 || Compare("-"+greatestValid, greatestValid) != -1 {
		t.Error("the limits are not in order")
	}
}

func FuzzIntegers(f *testing.F) {
	for _, seed := range [][2]string{{"0", "0"}, {"-7", "2"}, {"100000000", "10000"}, {"", "-0"}, {greatestValid, "-" + power(100)}} {
		f.Add(seed[0], seed[1])
	}
	f.Fuzz(func(t *testing.T, a, b string) {
		if Valid(a) != defined(a) || Valid(b) != defined(b) {
			t.Fatalf("Valid(%q) = %v, Valid(%q) = %v", a, Valid(a), b, Valid(b))
		}
		if Valid(a) && Valid(b) {
			agree(t, a, b)
			checkRoot(t, strings.TrimPrefix(a, "-"))
			return
		}
		texts, errors := results(a, b)
		for i := range texts {
			if texts[i] != "" || errors[i] != api.ErrInteger {
				t.Errorf("function %d of %q and %q: %q, %d", i, a, b, texts[i], errors[i])
			}
		}
	})
}
