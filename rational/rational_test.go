package rational

import (
	"math"
	"math/big"
	"math/rand"
	"slices"
	"strings"
	"testing"

	"aircheck/api"
)

// greatestInteger is the greatest valid integer.
var greatestInteger = strings.Repeat("9", api.MaxDigits)

// refused is what every function that returns a fraction returns with its error.
var refused = api.Ratio{}

// power is the integer 1 with so many zeros.
func power(zeros int) string {
	return "1" + strings.Repeat("0", zeros)
}

// large returns the integer s as the standard library has it, or nil if s is not valid.
func large(s string) *big.Int {
	n, ok := new(big.Int).SetString(s, 10)
	if !ok || n.String() != s || tooLarge(n) {
		return nil
	}
	return n
}

// tooLarge reports whether one of the integers has more than 200 digits.
func tooLarge(l ...*big.Int) bool {
	return slices.ContainsFunc(l, func(n *big.Int) bool { return len(new(big.Int).Abs(n).String()) > 200 })
}

// value returns the number that a valid fraction is.
func value(t testing.TB, r api.Ratio) *big.Rat {
	t.Helper()
	num, den := large(r.Num), large(r.Den)
	if num == nil || den == nil {
		t.Fatalf("%v is no fraction", r)
	}
	return new(big.Rat).SetFrac(num, den)
}

// lowest returns the fraction in lowest terms; the standard library makes it.
func lowest(num, den *big.Int) api.Ratio {
	r := new(big.Rat).SetFrac(num, den)
	return api.Ratio{Num: r.Num().String(), Den: r.Denom().String()}
}

// definedAsValid reports whether r is valid in the words of the chapter.
func definedAsValid(r api.Ratio) bool {
	num, den := large(r.Num), large(r.Den)
	return num != nil && den != nil && den.Sign() > 0 && new(big.Int).GCD(nil, nil, new(big.Int).Abs(num), den).String() == "1"
}

// is returns the fraction that s stands for, as Num, or Num and Den with / between them; s is not checked.
func is(s string) api.Ratio {
	num, den, found := strings.Cut(s, "/")
	if !found {
		den = "1"
	}
	return api.Ratio{Num: num, Den: den}
}

// must returns a result that is no error.
func must(t testing.TB) func(api.Ratio, api.Errno) api.Ratio {
	return func(r api.Ratio, e api.Errno) api.Ratio {
		t.Helper()
		if e != api.OK {
			t.Fatalf("error %d", e)
		}
		return r
	}
}

// expect fails unless the result is the fraction, or, if the fraction is refused, ErrRational.
func expect(t *testing.T, want, got api.Ratio, e api.Errno, name string, arguments ...any) {
	t.Helper()
	wanted := api.OK
	if want == refused {
		wanted = api.ErrRational
	}
	if got != want || e != wanted {
		t.Errorf("%s of %.1000v = %v, %d; want %v, %d", name, arguments, got, e, want, wanted)
	}
}

// digits returns so many random digits, the first of which is not 0.
func digits(r *rand.Rand, n int) *big.Int {
	s := make([]byte, n)
	for i := range s {
		s[i] = byte('0' + r.Intn(10))
	}
	if s[0] == '0' {
		s[0] = '1'
	}
	out, _ := new(big.Int).SetString(string(s), 10)
	return out
}

// anyRatio returns a random valid fraction: both of its integers have at most so many digits, and few as often as many.
func anyRatio(r *rand.Rand, most int) api.Ratio {
	size := func() int {
		if r.Intn(2) == 0 {
			return 1 + r.Intn(min(most, 3))
		}
		return 1 + r.Intn(most)
	}
	num, den := digits(r, size()), digits(r, size())
	switch r.Intn(8) {
	case 0:
		num.SetInt64(0)
	case 1:
		den.SetInt64(1)
	case 2, 3, 4:
		num.Neg(num)
	}
	return lowest(num, den)
}

// samples are valid fractions of both signs: small and large ones, near to each other and far from it, up to the limits of what is valid.
func samples() []api.Ratio {
	sizes := []string{
		"1", "2", "3", "7", "10", "1000000", "1/2", "1/3", "2/3", "3/2", "3/4", "4/3", "5/6", "7/10", "33333/100000", "33334/100000", "355/113", "9999/10000", "10000/9999",
		"9223372036854775807", "9223372036854775808", "1/9223372036854775808", "9223372036854775807/9223372036854775808",
		greatestInteger, "1/" + greatestInteger, greatestInteger + "/2", "2/" + greatestInteger, power(199), "1/" + power(199),
		greatestInteger + "/" + greatestInteger[1:] + "8", greatestInteger[1:] + "8/" + greatestInteger, greatestInteger + "/" + power(199), power(199) + "/" + greatestInteger,
		power(100), "1/" + power(100), power(100) + "/3", "3/" + power(100), greatestInteger[:100] + "/" + power(100), power(100) + "/" + greatestInteger[:100],
	}
	r := rand.New(rand.NewSource(1))
	out := []api.Ratio{{Num: "0", Den: "1"}}
	add := func(n api.Ratio) {
		num, den := large(n.Num), large(n.Den)
		out = append(out, lowest(num, den), lowest(new(big.Int).Neg(num), den))
	}
	for _, s := range sizes {
		add(is(s))
	}
	for _, most := range []int{5, 20, 99, 200} {
		add(lowest(digits(r, most), digits(r, most)))
	}
	return out
}

// badIntegers are strings that are no valid integers.
func badIntegers() []string {
	return []string{
		"", "-", "+", "-0", "+0", "+1", "00", "01", "-01", "--1", "1-", " ", " 1", "1 ", "1\n", "\x00", "1\x00", "x", "0x1", "1e3", "1_0", "1.0", "1,0",
		"/", "1/", "/1", "1/1", "1/2", ":", "٣", "１", "\xff", "NaN", "Inf", power(200), "-" + power(200), greatestInteger + "9", strings.Repeat("0", 200), strings.Repeat("1", 100000),
	}
}

// badRatios are fractions that are not valid, each with something else that is wrong.
func badRatios() []api.Ratio {
	out := []api.Ratio{
		{}, {Num: "1"}, {Den: "1"}, {Num: "0"}, {Num: "0", Den: "0"}, {Num: "1", Den: "0"}, {Num: "-1", Den: "0"},
		{Num: "1", Den: "-1"}, {Num: "-1", Den: "-1"}, {Num: "1", Den: "-2"}, {Num: "0", Den: "-1"}, {Num: "0", Den: "2"}, {Num: "0", Den: greatestInteger},
		{Num: "2", Den: "2"}, {Num: "2", Den: "4"}, {Num: "-2", Den: "4"}, {Num: "6", Den: "3"}, {Num: "-6", Den: "3"}, {Num: "3", Den: "6"}, {Num: "3/2", Den: "1"}, {Num: "3/2"},
		{Num: greatestInteger, Den: greatestInteger}, {Num: greatestInteger, Den: "3"}, {Num: "3", Den: greatestInteger}, {Num: power(199), Den: power(199)[:199]}, {Num: "2", Den: power(199)},
	}
	for _, bad := range badIntegers() {
		out = append(out, api.Ratio{Num: bad, Den: "1"}, api.Ratio{Num: "1", Den: bad}, api.Ratio{Num: bad, Den: bad}, api.Ratio{Num: "0", Den: bad})
	}
	return out
}

// operationNames are the names of the four operations, in the order in which operations has them.
var operationNames = []string{"Add", "Sub", "Mul", "Div"}

func operations() []func(api.Ratio, api.Ratio) (api.Ratio, api.Errno) {
	return []func(api.Ratio, api.Ratio) (api.Ratio, api.Errno){Add, Sub, Mul, Div}
}

// definedAs returns what the table of the chapter says of the four operations for two valid fractions; where one is too large, or divides by 0, it is refused.
func definedAs(t testing.TB, a, b api.Ratio) []api.Ratio {
	t.Helper()
	an, ad, bn, bd := large(a.Num), large(a.Den), large(b.Num), large(b.Den)
	product := func(x, y *big.Int) *big.Int { return new(big.Int).Mul(x, y) }
	left, right, den := product(an, bd), product(bn, ad), product(ad, bd)
	sum, difference := new(big.Int).Add(left, right), new(big.Int).Sub(left, right)
	out := make([]api.Ratio, 4)
	if !tooLarge(left, right, sum, den) {
		out[0] = lowest(sum, den)
	}
	if !tooLarge(left, right, difference, den) {
		out[1] = lowest(difference, den)
	}
	if num := product(an, bn); !tooLarge(num, den) {
		out[2] = lowest(num, den)
	}
	if bn.Sign() != 0 && !tooLarge(left, product(ad, bn)) {
		out[3] = lowest(left, product(ad, bn))
	}
	return out
}

// agree fails unless all functions of two fractions return for a and b what the chapter says.
func agree(t *testing.T, a, b api.Ratio) {
	t.Helper()
	for i, want := range definedAs(t, a, b) {
		got, e := operations()[i](a, b)
		expect(t, want, got, e, operationNames[i], a, b)
	}
	if c, want := Compare(a, b), value(t, a).Cmp(value(t, b)); c != want {
		t.Errorf("Compare(%v, %v) = %d, want %d", a, b, c, want)
	}
}

// rounded returns what the chapter says of Down and Up.
func rounded(r api.Ratio, places int) (api.Ratio, api.Ratio) {
	scale := large(power(places))
	num := new(big.Int).Mul(large(r.Num), scale)
	if tooLarge(num) {
		return refused, refused
	}
	quotient, rest := new(big.Int).DivMod(num, large(r.Den), new(big.Int))
	up := new(big.Int).Set(quotient)
	if rest.Sign() != 0 {
		up.Add(up, big.NewInt(1))
	}
	return lowest(quotient, scale), lowest(up, scale)
}

// checkRounding fails unless Down and Up return what the chapter says.
func checkRounding(t *testing.T, r api.Ratio, places int) {
	t.Helper()
	wantDown, wantUp := rounded(r, places)
	down, e := Down(r, places)
	expect(t, wantDown, down, e, "Down", r, places)
	up, e := Up(r, places)
	expect(t, wantUp, up, e, "Up", r, places)
}

// times returns the product of the integer and n.
func times(s string, n int64) string {
	return new(big.Int).Mul(large(s), big.NewInt(n)).String()
}

// minus returns the integer with the other sign.
func minus(s string) string {
	return times(s, -1)
}

// P4.1: Valid, Make and Of

func TestValid(t *testing.T) {
	for _, r := range samples() {
		if !Valid(r) || !definedAsValid(r) {
			t.Errorf("%v is not valid", r)
		}
	}
	for _, r := range badRatios() {
		if Valid(r) || definedAsValid(r) {
			t.Errorf("%.300v is valid", r)
		}
	}
	for n := -60; n <= 60; n++ {
		for d := -60; d <= 60; d++ {
			r := api.Ratio{Num: big.NewInt(int64(n)).String(), Den: big.NewInt(int64(d)).String()}
			if Valid(r) != definedAsValid(r) {
				t.Errorf("Valid(%v) = %v", r, Valid(r))
			}
		}
	}
}

func TestValidNeedsLowestTermsOfAnySize(t *testing.T) {
	r := rand.New(rand.NewSource(2))
	for range 2000 {
		num, den, common := digits(r, 1+r.Intn(100)), digits(r, 1+r.Intn(100)), digits(r, 1+r.Intn(99))
		common.Add(common, big.NewInt(1))
		n := lowest(num, den)
		if !Valid(n) {
			t.Errorf("%v is not valid", n)
		}
		for _, factor := range []*big.Int{common, new(big.Int).Neg(common), big.NewInt(-1)} {
			other := api.Ratio{Num: new(big.Int).Mul(large(n.Num), factor).String(), Den: new(big.Int).Mul(large(n.Den), factor).String()}
			if Valid(other) {
				t.Errorf("%v is valid", other)
			}
		}
	}
}

func TestOf(t *testing.T) {
	for _, c := range []struct {
		num, den int
		want     string
	}{
		{6, -4, "-3/2"}, {-6, -4, "3/2"}, {-6, 4, "-3/2"}, {6, 4, "3/2"}, {0, -5, "0"}, {0, 5, "0"}, {0, 1, "0"}, {7, 1, "7"}, {7, -1, "-7"}, {7, 7, "1"}, {7, -7, "-1"},
		{math.MinInt, math.MinInt, "1"}, {math.MaxInt, math.MaxInt, "1"}, {math.MinInt, 1, "-9223372036854775808"}, {math.MinInt, -1, "9223372036854775808"},
		{1, math.MinInt, "-1/9223372036854775808"}, {math.MaxInt, math.MinInt, "-9223372036854775807/9223372036854775808"}, {0, math.MinInt, "0"}, {math.MinInt, 1 << 62, "-2"},
	} {
		got, e := Of(c.num, c.den)
		expect(t, is(c.want), got, e, "Of", c.num, c.den)
	}
	for _, n := range []int{0, 1, -1, math.MinInt, math.MaxInt} {
		got, e := Of(n, 0)
		expect(t, refused, got, e, "Of", n, 0)
	}
	for n := -60; n <= 60; n++ {
		for d := -60; d <= 60; d++ {
			if d != 0 {
				got, e := Of(n, d)
				expect(t, lowest(big.NewInt(int64(n)), big.NewInt(int64(d))), got, e, "Of", n, d)
			}
		}
	}
}

func TestMake(t *testing.T) {
	least := "-" + greatestInteger
	for _, c := range []struct{ num, den, want string }{
		{"6", "-4", "-3/2"}, {"0", "-5", "0"}, {"0", least, "0"}, {"3", "1", "3"}, {greatestInteger, greatestInteger, "1"}, {greatestInteger, least, "-1"}, {least, least, "1"},
		{least, "-1", greatestInteger}, {greatestInteger, "-1", least}, {"1", least, "-1/" + greatestInteger}, {"-1", least, "1/" + greatestInteger}, {greatestInteger, "9", strings.Repeat("1", 200)},
		{power(199), power(198), "10"}, {power(198), power(199), "1/10"}, {power(199), "-4" + power(199)[1:], "-1/4"},
	} {
		got, e := Make(c.num, c.den)
		expect(t, is(c.want), got, e, "Make", c.num, c.den)
	}
	r := rand.New(rand.NewSource(3))
	for range 3000 {
		common := digits(r, 1+r.Intn(100))
		num, den := new(big.Int).Mul(common, digits(r, 1+r.Intn(100))), new(big.Int).Mul(common, digits(r, 1+r.Intn(100)))
		if r.Intn(2) == 0 {
			num.Neg(num)
		}
		if r.Intn(2) == 0 {
			den.Neg(den)
		}
		got, e := Make(num.String(), den.String())
		expect(t, lowest(num, den), got, e, "Make", num, den)
	}
}

func TestMakeRefuses(t *testing.T) {
	for _, bad := range append(badIntegers(), "0") {
		for _, other := range []string{"0", "1", "-1", "12345", greatestInteger, "", "-0", bad} {
			got, e := Make(other, bad)
			expect(t, refused, got, e, "Make", other, bad)
			if bad != "0" {
				got, e = Make(bad, other)
				expect(t, refused, got, e, "Make", bad, other)
			}
		}
	}
}

// P4.1: Add, Sub, Mul and Div

func TestExamplesOfOperations(t *testing.T) {
	for _, c := range []struct {
		operation  func(api.Ratio, api.Ratio) (api.Ratio, api.Errno)
		a, b, want string
	}{
		{Add, "1/2", "1/3", "5/6"}, {Add, "1/6", "1/3", "1/2"}, {Add, "1/2", "-1/2", "0"}, {Add, "-1/2", "-1/2", "-1"}, {Add, "0", "0", "0"},
		{Sub, "1/2", "1/2", "0"}, {Sub, "0", "7/3", "-7/3"}, {Sub, "1/3", "1/2", "-1/6"}, {Sub, "-1/2", "1/2", "-1"},
		{Mul, "-2/3", "3/4", "-1/2"}, {Mul, "-2/3", "-3/2", "1"}, {Mul, "0", "-5/7", "0"}, {Mul, "-5/7", "0", "0"},
		{Div, "1/2", "-1/4", "-2"}, {Div, "-1/2", "-1/4", "2"}, {Div, "-1/2", "1/4", "-2"}, {Div, "0", "-3", "0"}, {Div, "1", "-3", "-1/3"}, {Div, "2/3", "2/3", "1"},
	} {
		got, e := c.operation(is(c.a), is(c.b))
		expect(t, is(c.want), got, e, "an operation", c.a, c.b)
	}
}

func TestAllSmallFractions(t *testing.T) {
	var small []api.Ratio
	for d := int64(1); d <= 9; d++ {
		for n := int64(-9); n <= 9; n++ {
			if r := lowest(big.NewInt(n), big.NewInt(d)); r.Den == big.NewInt(d).String() {
				small = append(small, r)
			}
		}
	}
	for _, a := range small {
		for _, b := range small {
			agree(t, a, b)
		}
	}
}

func TestAllSamples(t *testing.T) {
	for _, a := range samples() {
		for _, b := range samples() {
			agree(t, a, b)
		}
	}
}

func TestRandomFractions(t *testing.T) {
	r := rand.New(rand.NewSource(4))
	for _, most := range []int{5, 40, 66, 99, 102, 150, 200} {
		for range 700 {
			agree(t, anyRatio(r, most), anyRatio(r, most))
		}
	}
}

// TestTooLarge has operations with an intermediate result of too many digits, also where those after it would have few. An empty string stands for an error.
func TestTooLarge(t *testing.T) {
	odd := greatestInteger[1:] + "7" // no multiple of 2 or 3
	next := power(198) + "1"         // times 10, it is 10 more than the least integer that is too large
	for _, c := range []struct {
		name, a, b               string
		add, subtract, mul, quot string
	}{
		{"nothing", "1/" + power(100), "1/" + power(99), "11/" + power(100), "-9/" + power(100), "1/" + power(199), "1/10"},
		{"all but the quotient", "1/" + power(100), "1/" + power(100), "", "", "", "1"},
		{"the product", power(100), power(100), "2" + power(100)[1:], "0", "", "1"},
		{"the sum and the quotient", power(100), "1/" + power(100), "", "", "1", ""},
		{"the sum and the other quotient", "1/" + power(100), power(100), "", "", "1", ""},
		{"the sum", greatestInteger, "1", "", greatestInteger[1:] + "8", greatestInteger, greatestInteger},
		{"the difference", greatestInteger, "-1", greatestInteger[1:] + "8", "", "-" + greatestInteger, "-" + greatestInteger},
		{"the negative difference", "-" + greatestInteger, "1", "-" + greatestInteger[1:] + "8", "", "-" + greatestInteger, "-" + greatestInteger},
		{"the sum of equals", "5" + power(199)[1:], "5" + power(199)[1:], "", "0", "", "1"},
		{"both products, but not the difference", odd + "/3", odd + "/4", "", "", "", ""},
		{"the first product, but not the sum", next, "-11/10", "", "", "", ""},
		{"the second product, but not the sum", "-11/10", next, "", "", "", ""},
		{"the first product, but not the difference", next, "11/10", "", "", "", ""},
		{"the second product, but not the difference", "11/10", next, "", "", "", ""},
		{"the denominator of the quotient", "1/2", odd, "", "", odd + "/2", ""},
		{"the denominator of all but the quotient", "1/" + power(110), "1/" + power(95), "", "", "", "1/" + power(15)},
		{"nothing beside 0", "0", "1/" + power(199), "1/" + power(199), "-1/" + power(199), "0", "0"},
		{"the quotient, whose divisor is 0", greatestInteger, "0", greatestInteger, greatestInteger, "0", ""},
		{"factors that cancel out too late", power(150) + "/7", power(58) + "1/" + power(150), "", "", "", ""},
	} {
		wants := []string{c.add, c.subtract, c.mul, c.quot}
		a, b := is(c.a), is(c.b)
		for i, defined := range definedAs(t, a, b) {
			want := refused
			if wants[i] != "" {
				want = is(wants[i])
			}
			if want != defined {
				t.Errorf("%s: %s: the test expects %v, the chapter %v", c.name, operationNames[i], want, defined)
			}
			got, e := operations()[i](a, b)
			expect(t, want, got, e, operationNames[i]+", too large: "+c.name, a, b)
		}
	}
}

func TestInvalidFractionsAreRefused(t *testing.T) {
	valid := []api.Ratio{is("0"), is("1"), is("-1/2"), is(greatestInteger)}
	for _, bad := range badRatios() {
		for _, other := range append(valid, bad, api.Ratio{}, api.Ratio{Num: "2", Den: "4"}) {
			for i, operate := range operations() {
				got, e := operate(bad, other)
				expect(t, refused, got, e, operationNames[i], bad, other)
				got, e = operate(other, bad)
				expect(t, refused, got, e, operationNames[i], other, bad)
			}
			if c, d := Compare(bad, other), Compare(other, bad); c != 0 || d != 0 {
				t.Errorf("Compare of %.300v and %.300v = %d, %d", bad, other, c, d)
			}
		}
		for _, places := range []int{-1, 0, 2, 30, 31} {
			got, e := Down(bad, places)
			expect(t, refused, got, e, "Down", bad, places)
			got, e = Up(bad, places)
			expect(t, refused, got, e, "Up", bad, places)
		}
		if s := Print(bad); s != "" {
			t.Errorf("Print(%.300v) = %q", bad, s)
		}
	}
}

func TestDivByZeroIsRefused(t *testing.T) {
	for _, r := range samples() {
		got, e := Div(r, is("0"))
		expect(t, refused, got, e, "Div", r, "0")
	}
}

// P4.1: Compare

func TestCompareOfExamples(t *testing.T) {
	ascending := []string{
		"-" + greatestInteger, "-" + greatestInteger[1:] + "8", "-2", "-" + greatestInteger + "/" + greatestInteger[1:] + "8", "-1", "-" + greatestInteger[1:] + "8/" + greatestInteger, "-1/2", "-1/3",
		"-1/" + greatestInteger[1:] + "8", "-1/" + greatestInteger, "0", "1/" + greatestInteger, "1/" + greatestInteger[1:] + "8", "33333/100000", "1/3", "166667/500000", "1/2",
		greatestInteger[1:] + "7/" + greatestInteger[1:] + "8", greatestInteger[1:] + "8/" + greatestInteger, "1", greatestInteger + "/" + greatestInteger[1:] + "8", "7/5", "10/7", "3/2", "2", "5/2", "3",
		greatestInteger[1:] + "8", greatestInteger,
	}
	for i, a := range ascending {
		for j, b := range ascending {
			want := 0
			if i < j {
				want = -1
			} else if i > j {
				want = 1
			}
			if c := Compare(is(a), is(b)); c != want {
				t.Errorf("Compare(%s, %s) = %d, want %d", a, b, c, want)
			}
		}
	}
}

// checkOrder fails unless Compare of a and b is want, and of b and a its opposite, and each of them is equal to itself.
func checkOrder(t *testing.T, a, b api.Ratio, want int) {
	t.Helper()
	if c, d := Compare(a, b), Compare(b, a); c != want || d != -want {
		t.Errorf("Compare of %v and %v = %d and %d, want %d", a, b, c, d, want)
	}
	if Compare(a, a) != 0 || Compare(b, b) != 0 {
		t.Errorf("%v or %v is not equal to itself", a, b)
	}
}

// TestCompareOfNeighbours compares fractions whose products differ by 1 only, and for which it takes the most steps: those of Fibonacci numbers.
func TestCompareOfNeighbours(t *testing.T) {
	a, b, sign := big.NewInt(0), big.NewInt(1), 1
	for {
		c := new(big.Int).Add(a, b)
		d := new(big.Int).Add(b, c)
		if tooLarge(d) {
			break
		}
		if digits := len(d.String()); digits < 5 || digits > 198 || digits%40 == 0 {
			left, right := lowest(b, c), lowest(c, d)
			checkOrder(t, left, right, sign)
			left.Num, right.Num = minus(left.Num), minus(right.Num)
			checkOrder(t, left, right, -sign)
		}
		// Each one is on the other side of the next one.
		a, b, sign = b, c, -sign
	}
	if digits := len(b.String()); digits < 199 {
		t.Errorf("the last one had %d digits", digits)
	}
}

func TestCompareOfLargeFractions(t *testing.T) {
	r := rand.New(rand.NewSource(5))
	for range 20 {
		a := lowest(digits(r, 200), digits(r, 199+r.Intn(2)))
		num, den := large(a.Num), large(a.Den)
		for near := int64(-1); near <= 1; near++ {
			for _, b := range []api.Ratio{lowest(new(big.Int).Add(num, big.NewInt(near)), den), lowest(num, new(big.Int).Add(den, big.NewInt(near)))} {
				if definedAsValid(b) {
					checkOrder(t, a, b, value(t, a).Cmp(value(t, b)))
				}
			}
		}
	}
}

// P4.1: Down and Up

func TestRounding(t *testing.T) {
	for _, c := range []struct {
		r        string
		places   int
		down, up string
	}{
		{"1/3", 2, "33/100", "17/50"}, {"-1/3", 2, "-17/50", "-33/100"}, {"7", 3, "7", "7"}, {"-7", 0, "-7", "-7"}, {"1/8", 3, "1/8", "1/8"}, {"1/8", 2, "3/25", "13/100"}, {"-1/8", 2, "-13/100", "-3/25"},
		{"5/2", 0, "2", "3"}, {"-5/2", 0, "-3", "-2"}, {"5/2", 1, "5/2", "5/2"}, {"0", 0, "0", "0"}, {"0", 30, "0", "0"}, {"999/1000", 2, "99/100", "1"}, {"-999/1000", 2, "-1", "-99/100"},
		{"1/" + greatestInteger, 30, "0", "1/" + power(30)}, {"-1/" + greatestInteger, 30, "-1/" + power(30), "0"}, {"1/" + power(30), 30, "1/" + power(30), "1/" + power(30)},
		{"1/" + power(31), 30, "0", "1/" + power(30)}, {"1/3", 30, strings.Repeat("3", 30) + "/" + power(30), "1" + strings.Repeat("6", 28) + "7/5" + power(29)[1:]},
		{greatestInteger + "/2", 0, "4" + greatestInteger[1:], "5" + power(199)[1:]}, {greatestInteger, 0, greatestInteger, greatestInteger},
		{greatestInteger[:170], 30, greatestInteger[:170], greatestInteger[:170]}, {greatestInteger[:199] + "/" + power(199), 1, "9/10", "1"},
	} {
		down, e := Down(is(c.r), c.places)
		expect(t, is(c.down), down, e, "Down", c.r, c.places)
		up, e := Up(is(c.r), c.places)
		expect(t, is(c.up), up, e, "Up", c.r, c.places)
	}
}

func TestRoundingOfAllPlaces(t *testing.T) {
	r := rand.New(rand.NewSource(6))
	for places := range api.MaxPlaces + 1 {
		for n := int64(-40); n <= 40; n++ {
			checkRounding(t, lowest(big.NewInt(n), big.NewInt(7)), places)
			checkRounding(t, lowest(big.NewInt(n), big.NewInt(8)), places)
			checkRounding(t, lowest(big.NewInt(n), large(power(places))), places)
		}
		for range 60 {
			checkRounding(t, anyRatio(r, 170), places)
			checkRounding(t, anyRatio(r, 200), places)
		}
	}
	for _, s := range samples() {
		for _, places := range []int{0, 1, 2, 7, 29, 30} {
			checkRounding(t, s, places)
		}
	}
}

func TestRoundingRefuses(t *testing.T) {
	for _, r := range []api.Ratio{is("0"), is("1"), is("-1/3"), is(greatestInteger)} {
		for _, places := range []int{-1, -2, 31, 32, 200, 1 << 40, -1 << 40, math.MinInt, math.MaxInt} {
			down, e := Down(r, places)
			expect(t, refused, down, e, "Down", r, places)
			up, e := Up(r, places)
			expect(t, refused, up, e, "Up", r, places)
		}
	}
	// A numerator times t may have 200 digits, but not 201, even where there is nothing to round.
	for places := range api.MaxPlaces + 1 {
		for _, sign := range []string{"", "-"} {
			for _, den := range []string{"1", "2", power(50)} {
				fits, long := sign+greatestInteger[:200-places], sign+greatestInteger[:min(200, 201-places)]
				checkRounding(t, api.Ratio{Num: fits, Den: den}, places)
				if down, e := Down(api.Ratio{Num: fits, Den: den}, places); e != api.OK {
					t.Errorf("Down(%s/%s, %d) = %v, %d", fits, den, places, down, e)
				}
				if places > 0 {
					down, e := Down(api.Ratio{Num: long, Den: den}, places)
					expect(t, refused, down, e, "Down", long, den, places)
					up, e := Up(api.Ratio{Num: long, Den: den}, places)
					expect(t, refused, up, e, "Up", long, den, places)
				}
			}
		}
	}
}

// P4.1: Print and Parse

func TestPrint(t *testing.T) {
	for want, r := range map[string]api.Ratio{
		"0": {Num: "0", Den: "1"}, "1": {Num: "1", Den: "1"}, "-7": {Num: "-7", Den: "1"}, "-3/2": {Num: "-3", Den: "2"}, "1/10": {Num: "1", Den: "10"},
		greatestInteger: {Num: greatestInteger, Den: "1"}, "-1/" + greatestInteger: {Num: "-1", Den: greatestInteger},
	} {
		if s := Print(r); s != want {
			t.Errorf("Print(%v) = %q, want %q", r, s, want)
		}
	}
	for _, r := range samples() {
		if s := Print(r); s != value(t, r).RatString() {
			t.Errorf("Print(%v) = %q", r, s)
		}
	}
}

func TestParse(t *testing.T) {
	for _, r := range samples() {
		got, e := Parse(value(t, r).RatString())
		expect(t, r, got, e, "Parse", value(t, r).RatString())
	}
	refusals := []string{
		"3/-2", "-3/-2", "6/4", "-6/4", "3/1", "-3/1", "0/1", "0/2", "0/-1", "0/0", "1/0", "-1/0", "2/2", "+3", "+3/2", "3/+2", "03", "3/02", "03/2", "-0", "-0/1", "-0/2", "1/00",
		"1/2/3", "1/2/", "/1/2", "//", "/2", "3/", "-/2", "3//2", "1 /2", "1/ 2", " 1/2", "1/2 ", "1/2\n", "1/2\x00", "1\\2", "1:2", "0.5", "1,5", "½", "1\u20442",
		power(200), power(200) + "/3", "1/" + power(200), greatestInteger + "/" + greatestInteger, strings.Repeat("/", 100000), strings.Repeat("1", 100000) + "/2", "2/" + power(199),
	}
	for _, s := range append(refusals, badIntegers()...) {
		if s != "1/2" {
			got, e := Parse(s)
			expect(t, refused, got, e, "Parse", s)
		}
	}
}

// P4.2

// reached returns the fraction n in several ways, which must all lead to the same one. Its integers have at most 60 digits.
func reached(t *testing.T, n, other api.Ratio) map[string]api.Ratio {
	t.Helper()
	ok := must(t)
	zero, one := is("0"), is("1")
	ways := map[string]api.Ratio{
		"made":              ok(Make(n.Num, n.Den)),
		"made of negatives": ok(Make(times(n.Num, -1), times(n.Den, -1))),
		"made of multiples": ok(Make(times(n.Num, 10), times(n.Den, 10))),
		"n + 0":             ok(Add(n, zero)),
		"0 + n":             ok(Add(zero, n)),
		"n - 0":             ok(Sub(n, zero)),
		"n * 1":             ok(Mul(n, one)),
		"n / 1":             ok(Div(n, one)),
		"n / -1 / -1":       ok(Div(ok(Div(n, is("-1"))), is("-1"))),
		"0 - (0 - n)":       ok(Sub(zero, ok(Sub(zero, n)))),
		"n + b - b":         ok(Sub(ok(Add(n, other)), other)),
		"parsed":            ok(Parse(Print(n))),
	}
	if n.Num == "0" {
		ways["b * 0"] = ok(Mul(other, zero))
		ways["b - b"] = ok(Sub(other, other))
		ways["made of another Den"] = ok(Make("0", other.Den))
		return ways
	}
	ways["1 / (1 / n)"] = ok(Div(one, ok(Div(one, n))))
	return ways
}

func TestOneFractionForEachValue(t *testing.T) {
	r := rand.New(rand.NewSource(7))
	for range 500 {
		n, other := anyRatio(r, 30), anyRatio(r, 30)
		for way, got := range reached(t, n, other) {
			if got != n || !Valid(got) || Print(got) != Print(n) || Compare(got, n) != 0 {
				t.Errorf("%v: %s (with %v) is %v", n, way, other, got)
			}
		}
	}
}

func TestEqualValuesAreEqualFractions(t *testing.T) {
	for _, a := range samples() {
		for _, b := range samples() {
			same := value(t, a).Cmp(value(t, b)) == 0
			if (a == b) != same || (Print(a) == Print(b)) != same || (Compare(a, b) == 0) != same {
				t.Errorf("%v and %v: equal: %v, printed the same: %v, compared: %d", a, b, a == b, Print(a) == Print(b), Compare(a, b))
			}
		}
	}
}

func TestResultsAreValid(t *testing.T) {
	r := rand.New(rand.NewSource(8))
	for range 1000 {
		a, b := anyRatio(r, api.MaxDigits), anyRatio(r, api.MaxDigits)
		var results []api.Ratio
		var errors []api.Errno
		add := func(n api.Ratio, e api.Errno) {
			results, errors = append(results, n), append(errors, e)
		}
		for _, operate := range operations() {
			add(operate(a, b))
		}
		add(Make(a.Num, b.Den))
		add(Of(r.Int()-r.Int(), r.Intn(1000)))
		add(Down(a, r.Intn(31)))
		add(Up(a, r.Intn(31)))
		add(Parse(Print(a)))
		for i, n := range results {
			if Valid(n) != (errors[i] == api.OK) || definedAsValid(n) != (errors[i] == api.OK) {
				t.Errorf("result %d of %v and %v: %v, %d", i, a, b, n, errors[i])
			}
		}
	}
}

// P4.3

func TestField(t *testing.T) {
	r := rand.New(rand.NewSource(9))
	ok := must(t)
	for range 1500 {
		a, b, c := anyRatio(r, 30), anyRatio(r, 30), anyRatio(r, 30)
		if ok(Add(a, b)) != ok(Add(b, a)) || ok(Mul(a, b)) != ok(Mul(b, a)) {
			t.Errorf("%v and %v do not commute", a, b)
		}
		if ok(Add(ok(Add(a, b)), c)) != ok(Add(a, ok(Add(b, c)))) || ok(Mul(ok(Mul(a, b)), c)) != ok(Mul(a, ok(Mul(b, c)))) {
			t.Errorf("%v, %v and %v do not associate", a, b, c)
		}
		if ok(Mul(a, ok(Add(b, c)))) != ok(Add(ok(Mul(a, b)), ok(Mul(a, c)))) || ok(Mul(ok(Sub(b, c)), a)) != ok(Sub(ok(Mul(b, a)), ok(Mul(c, a)))) {
			t.Errorf("%v is not distributed over %v and %v", a, b, c)
		}
		if ok(Sub(ok(Add(a, b)), b)) != a || ok(Add(ok(Sub(a, b)), b)) != a {
			t.Errorf("adding and subtracting %v changes %v", b, a)
		}
		if b.Num != "0" && (ok(Div(ok(Mul(a, b)), b)) != a || ok(Mul(ok(Div(a, b)), b)) != a) {
			t.Errorf("multiplying and dividing by %v changes %v", b, a)
		}
	}
}

// P4.4

func TestCompareIsATotalOrder(t *testing.T) {
	l := samples()
	slices.SortFunc(l, func(a, b api.Ratio) int { return value(t, a).Cmp(value(t, b)) })
	for i, a := range l {
		for j, b := range l {
			c := Compare(a, b)
			if c != -Compare(b, a) || (c == 0) != (a == b) || i < j && c > 0 || i > j && c < 0 {
				t.Errorf("Compare(%v, %v) = %d", a, b, c)
			}
		}
	}
	r := rand.New(rand.NewSource(10))
	for range 1000 {
		three := []api.Ratio{anyRatio(r, 200), anyRatio(r, 200), anyRatio(r, 200)}
		slices.SortFunc(three, Compare)
		if Compare(three[0], three[1]) > 0 || Compare(three[1], three[2]) > 0 || Compare(three[0], three[2]) > 0 {
			t.Errorf("%v are not in order", three)
		}
	}
}

func TestCompareIsKept(t *testing.T) {
	r := rand.New(rand.NewSource(11))
	ok := must(t)
	for range 1500 {
		a, b, c := anyRatio(r, 40), anyRatio(r, 40), anyRatio(r, 40)
		if r.Intn(4) == 0 {
			b = a
		}
		order := Compare(a, b)
		if Compare(ok(Sub(a, b)), is("0")) != order || Compare(ok(Sub(b, a)), is("0")) != -order {
			t.Errorf("Compare(%v, %v) = %d is not the sign of the difference", a, b, order)
		}
		if Compare(ok(Add(a, c)), ok(Add(b, c))) != order || Compare(ok(Sub(a, c)), ok(Sub(b, c))) != order {
			t.Errorf("adding %v changes the order of %v and %v", c, a, b)
		}
		sign := Compare(c, is("0"))
		if Compare(ok(Mul(a, c)), ok(Mul(b, c))) != sign*order {
			t.Errorf("multiplying by %v does not keep the order of %v and %v", c, a, b)
		}
		if sign != 0 && Compare(ok(Div(a, c)), ok(Div(b, c))) != sign*order {
			t.Errorf("dividing by %v does not keep the order of %v and %v", c, a, b)
		}
	}
}

// P4.5

func TestRoundedValuesEnclose(t *testing.T) {
	r := rand.New(rand.NewSource(12))
	ok := must(t)
	for range 1500 {
		n, places := anyRatio(r, 100), r.Intn(31)
		unit := is("1/" + power(places))
		if places == 0 {
			unit = is("1")
		}
		if r.Intn(4) == 0 {
			n = ok(Mul(ok(Make(n.Num, "1")), unit))
		}
		down, up := ok(Down(n, places)), ok(Up(n, places))
		if Compare(down, n) > 0 || Compare(n, up) > 0 {
			t.Errorf("%v is not between %v and %v", n, down, up)
		}
		if ok(Div(down, unit)).Den != "1" || ok(Div(up, unit)).Den != "1" {
			t.Errorf("%v to %d places: %v or %v is no multiple", n, places, down, up)
		}
		multiple := ok(Div(n, unit)).Den == "1"
		switch difference := ok(Sub(up, down)); {
		case multiple && (down != n || up != n):
			t.Errorf("%v is a multiple, but rounded to %v and %v", n, down, up)
		case !multiple && difference != unit:
			t.Errorf("%v to %d places: %v and %v differ by %v", n, places, down, up, difference)
		}
	}
}

func TestRoundingAgainChangesNothing(t *testing.T) {
	r := rand.New(rand.NewSource(13))
	ok := must(t)
	for range 1000 {
		n, places := anyRatio(r, 100), r.Intn(31)
		for _, once := range []api.Ratio{ok(Down(n, places)), ok(Up(n, places))} {
			for more := places; more <= 30; more += 10 {
				if down, up := ok(Down(once, more)), ok(Up(once, more)); down != once || up != once {
					t.Errorf("%v to %d places: %v, then to %d places: %v and %v", n, places, once, more, down, up)
				}
			}
		}
	}
}

func TestUpMirrorsDown(t *testing.T) {
	r := rand.New(rand.NewSource(14))
	for range 2000 {
		n, places := anyRatio(r, 200), r.Intn(31)
		opposite := api.Ratio{Num: minus(n.Num), Den: n.Den}
		up, e := Up(n, places)
		down, f := Down(opposite, places)
		if e != f || e == api.OK && (up.Num != minus(down.Num) || up.Den != down.Den) || e != api.OK && (up != refused || down != refused) {
			t.Errorf("Up(%v, %d) = %v, %d, but Down of its opposite = %v, %d", n, places, up, e, down, f)
		}
	}
}

// P4.6

func TestParseInvertsPrint(t *testing.T) {
	r := rand.New(rand.NewSource(15))
	for range 2000 {
		n := anyRatio(r, 200)
		got, e := Parse(Print(n))
		expect(t, n, got, e, "Parse", Print(n))
	}
}

// TestPrintInvertsParse parses all strings of up to four letters: whatever is accepted is printed as it was, and nothing that Print could return is refused.
func TestPrintInvertsParse(t *testing.T) {
	printed := map[string]bool{}
	for n := int64(-999); n <= 9999; n++ {
		printed[big.NewInt(n).String()] = true
		for d := int64(1); d <= 99 && -99 <= n && n <= 99; d++ {
			printed[big.NewRat(n, d).RatString()] = true
		}
	}
	accepted := 0
	var parseAll func(prefix string)
	parseAll = func(prefix string) {
		r, e := Parse(prefix)
		switch {
		case (e == api.OK) != printed[prefix], e == api.OK && Print(r) != prefix, e != api.OK && (e != api.ErrRational || r != refused):
			t.Errorf("Parse(%q) = %v, %d", prefix, r, e)
		case e == api.OK:
			accepted++
		}
		if len(prefix) < 4 {
			for _, letter := range "-/012346\x00 +" {
				parseAll(prefix + string(letter))
			}
		}
	}
	parseAll("")
	if accepted < 1000 {
		t.Errorf("only %d strings were accepted", accepted)
	}
}

func FuzzRationals(f *testing.F) {
	for _, seed := range [][2]string{{"0", "0"}, {"-7/2", "1/3"}, {"6/4", "3/1"}, {"", "-0"}, {greatestInteger, "1/" + power(150)}} {
		f.Add(seed[0], seed[1], 2)
	}
	f.Fuzz(func(t *testing.T, s, u string, places int) {
		a, b := is(s), is(u)
		if Valid(a) != definedAsValid(a) || Valid(b) != definedAsValid(b) {
			t.Fatalf("Valid(%v) = %v, Valid(%v) = %v", a, Valid(a), b, Valid(b))
		}
		if !Valid(a) || !Valid(b) {
			for i, operate := range operations() {
				got, e := operate(a, b)
				expect(t, refused, got, e, operationNames[i], a, b)
			}
			return
		}
		agree(t, a, b)
		checkRounding(t, a, int(uint(places)%(api.MaxPlaces+1)))
		got, e := Parse(Print(b))
		expect(t, b, got, e, "Parse", Print(b))
	})
}
