package wire

import (
	"hash/crc32"
	"math"
	"math/rand"
	"strings"
	"testing"
	"unsafe"

	"aircheck/api"
)

// limitBytes are the ends of what can be encoded as an integer.
const (
	encodedMax = "\xfe\xff\xff\xff\xff\xff\xff\xff\x7f"
	encodedMin = "\xfd\xff\xff\xff\xff\xff\xff\xff\x7f"
)

// integers are numbers of every number of groups, of both signs, around the places where a group is added.
func integers() []int {
	out := []int{0, api.MaxInt, -api.MaxInt, api.MaxInt - 1, 1 - api.MaxInt}
	for bit := 0; bit < 62; bit++ {
		for near := -2; near <= 2; near++ {
			if n := 1<<bit + near; n <= api.MaxInt {
				out = append(out, n, -n)
			}
		}
	}
	return out
}

// defined is the encoding of n, in the words of the chapter.
func defined(n int) string {
	z := uint64(n) * 2
	if n < 0 {
		z = uint64(-n)*2 - 1
	}
	out := []byte{byte(z % 128)}
	for z /= 128; z > 0; z /= 128 {
		out[len(out)-1] += 128
		out = append(out, byte(z%128))
	}
	return string(out)
}

// P1.1

func TestPutIntEncodes(t *testing.T) {
	for _, c := range []struct {
		n    int
		want string
	}{
		{0, "\x00"}, {1, "\x02"}, {-1, "\x01"}, {2, "\x04"}, {-2, "\x03"},
		{63, "\x7e"}, {-64, "\x7f"}, {64, "\x80\x01"}, {-65, "\x81\x01"},
		{150, "\xac\x02"}, {8191, "\xfe\x7f"}, {-8192, "\xff\x7f"}, {8192, "\x80\x80\x01"},
		{api.MaxInt, encodedMax}, {-api.MaxInt, encodedMin},
	} {
		if s, e := PutInt(c.n); s != c.want || e != api.OK {
			t.Errorf("PutInt(%d) = %x, %d; want %x", c.n, s, e, c.want)
		}
	}
	for _, n := range integers() {
		if s, e := PutInt(n); s != defined(n) || e != api.OK {
			t.Errorf("PutInt(%d) = %x, %d; want %x", n, s, e, defined(n))
		}
	}
}

func TestPutIntRefusesWhatIsTooGreat(t *testing.T) {
	for _, n := range []int{api.MaxInt + 1, -api.MaxInt - 1, api.MaxInt + 2, -api.MaxInt - 2, math.MaxInt, math.MinInt, math.MinInt + 1} {
		if s, e := PutInt(n); s != "" || e != api.ErrWire {
			t.Errorf("PutInt(%d) = %x, %d; want ErrWire", n, s, e)
		}
	}
}

func TestIntDecodes(t *testing.T) {
	for _, c := range []struct {
		s        string
		at       int
		n, after int
	}{
		{"\xac\x02", 0, 150, 2}, {"\x00", 0, 0, 1}, {"\x01", 0, -1, 1}, {"\x7f", 0, -64, 1},
		{"\xff\x80\x01", 1, 64, 3}, {"\x80\x00\x02", 2, 1, 3}, {"\x02\x80\x00", 0, 1, 1},
		{encodedMax, 0, api.MaxInt, 9}, {encodedMin + "\xff", 0, -api.MaxInt, 9},
	} {
		if n, after, e := Int(c.s, c.at); n != c.n || after != c.after || e != api.OK {
			t.Errorf("Int(%x, %d) = %d, %d, %d; want %d, %d", c.s, c.at, n, after, e, c.n, c.after)
		}
	}
}

func TestIntRefusesOffsets(t *testing.T) {
	for _, s := range []string{"", "\x00", "\x80", "\x80\x00", encodedMax} {
		for _, at := range []int{-1, -2, len(s) + 1, len(s) + 2, math.MinInt, math.MaxInt} {
			if n, after, e := Int(s, at); n != 0 || after != 0 || e != api.ErrArg {
				t.Errorf("Int(%x, %d) = %d, %d, %d; want ErrArg", s, at, n, after, e)
			}
		}
	}
}

func TestIntRefusesWhatIsNoEncoding(t *testing.T) {
	for _, c := range []struct {
		why string
		s   string
		at  int
	}{
		{"it ends before it begins", "", 0},
		{"the offset is the end", "\x00", 1},
		{"it ends after a group", "\x80", 0},
		{"it ends after a group that is not zero", "\xac", 0},
		{"it ends after eight groups", "\xff\xff\xff\xff\xff\xff\xff\xff", 0},
		{"it ends after nine groups", "\xff\xff\xff\xff\xff\xff\xff\xff\xff", 0},
		{"zero with a superfluous group", "\x80\x00", 0},
		{"150 with a superfluous group", "\xac\x82\x00", 0},
		{"two superfluous groups", "\x82\x80\x00", 0},
		{"nine groups, the last superfluous", "\xff\xff\xff\xff\xff\xff\xff\xff\x00", 0},
		{"MaxInt with a superfluous group", "\xfe\xff\xff\xff\xff\xff\xff\xff\xff\x00", 0},
		{"-MaxInt - 1", "\xff\xff\xff\xff\xff\xff\xff\xff\x7f", 0},
		{"MaxInt + 1", "\x80\x80\x80\x80\x80\x80\x80\x80\x80\x01", 0},
		{"-2^63", "\xff\xff\xff\xff\xff\xff\xff\xff\xff\x01", 0},
		{"2^64: it wraps around to zero", "\x80\x80\x80\x80\x80\x80\x80\x80\x80\x02", 0},
		{"2^70 and more", "\x80\x80\x80\x80\x80\x80\x80\x80\x80\x80\x01", 0},
		{"groups without an end", strings.Repeat("\xff", 1000), 0},
		{"zero groups without an end", strings.Repeat("\x80", 1000), 3},
	} {
		if n, after, e := Int(c.s, c.at); n != 0 || after != 0 || e != api.ErrWire {
			t.Errorf("%s: Int(%x, %d) = %d, %d, %d; want ErrWire", c.why, c.s, c.at, n, after, e)
		}
	}
}

// P1.2

func TestPutStringEncodes(t *testing.T) {
	for _, c := range []struct{ s, want string }{
		{"", "\x00"}, {"a", "\x02a"}, {"ab", "\x04ab"}, {"\x00\xff", "\x04\x00\xff"},
		{strings.Repeat("x", 63), "\x7e" + strings.Repeat("x", 63)},
		{strings.Repeat("x", 64), "\x80\x01" + strings.Repeat("x", 64)},
		{strings.Repeat("x", api.MaxString), "\x80\x80\x08" + strings.Repeat("x", api.MaxString)},
	} {
		if s, e := PutString(c.s); s != c.want || e != api.OK {
			t.Errorf("PutString(%.9q) = %.9x, %d; want %.9x", c.s, s, e, c.want)
		}
	}
}

func TestPutStringRefusesWhatIsTooLong(t *testing.T) {
	for _, extra := range []int{1, 2, api.MaxString} {
		if s, e := PutString(strings.Repeat("x", api.MaxString+extra)); s != "" || e != api.ErrWire {
			t.Errorf("a string of MaxString + %d bytes: %.9x, %d; want ErrWire", extra, s, e)
		}
	}
}

func TestStringDecodes(t *testing.T) {
	long := strings.Repeat("y", api.MaxString)
	for _, c := range []struct {
		s     string
		at    int
		want  string
		after int
	}{
		{"\x04abc", 0, "ab", 3}, {"\x04ab", 0, "ab", 3}, {"\x00", 0, "", 1}, {"ab\x00", 2, "", 3},
		{"\x01\x02z\x01", 1, "z", 3}, {"\x06\x00\x80\xff", 0, "\x00\x80\xff", 4},
		{"\x80\x80\x08" + long, 0, long, 3 + api.MaxString},
		{"\x00\x80\x80\x08" + long + "\x01", 1, long, 4 + api.MaxString},
	} {
		if s, after, e := String(c.s, c.at); s != c.want || after != c.after || e != api.OK {
			t.Errorf("String(%.9x, %d) = %.9q, %d, %d; want %.9q, %d", c.s, c.at, s, after, e, c.want, c.after)
		}
	}
}

func TestStringRefusesOffsets(t *testing.T) {
	for _, s := range []string{"", "\x04ab", "\x04a", "\x01", "\x80"} {
		for _, at := range []int{-1, -2, len(s) + 1, len(s) + 2, math.MinInt, math.MaxInt} {
			if u, after, e := String(s, at); u != "" || after != 0 || e != api.ErrArg {
				t.Errorf("String(%x, %d) = %q, %d, %d; want ErrArg", s, at, u, after, e)
			}
		}
	}
}

func TestStringRefusesWhatIsNoEncoding(t *testing.T) {
	for _, c := range []struct {
		why string
		s   string
		at  int
	}{
		{"there is no length", "", 0},
		{"the offset is the end", "\x04ab", 3},
		{"the length has no end", "\x84", 0},
		{"the length has a superfluous group", "\x84\x00ab", 0},
		{"the length is negative", "\x01a", 0},
		{"the length is the least integer", encodedMin + "a", 0},
		{"the length is the greatest integer", encodedMax + "a", 0},
		{"the length is no integer that can be encoded", "\xff\xff\xff\xff\xff\xff\xff\xff\x7fa", 0},
		{"a byte lacks", "\x04a", 0},
		{"all bytes lack", "\x02", 0},
		{"a byte lacks after the offset", "ab\x04a", 2},
		{"a byte lacks of MaxString", "\x80\x80\x08" + strings.Repeat("x", api.MaxString-1), 0},
		{"the length is MaxString + 1", "\x82\x80\x08" + strings.Repeat("x", api.MaxString+1), 0},
	} {
		if s, after, e := String(c.s, c.at); s != "" || after != 0 || e != api.ErrWire {
			t.Errorf("%s: String(%.12x, %d) = %.9q, %d, %d; want ErrWire", c.why, c.s, c.at, s, after, e)
		}
	}
}

func TestStringsAreNewMemory(t *testing.T) {
	within := func(part, whole string) bool {
		from := uintptr(unsafe.Pointer(unsafe.StringData(whole)))
		at := uintptr(unsafe.Pointer(unsafe.StringData(part)))
		return at >= from && at < from+uintptr(len(whole))
	}
	whole := "\x08" + strings.Repeat("a", 4)
	if s, _, _ := String(whole, 0); s != "aaaa" || within(s, whole) {
		t.Error("String returns a part of its argument")
	}
	if s, _ := PutString(whole); within(s, whole) || within(whole, s) {
		t.Error("PutString returns its argument")
	}
}

// P1.3

// shifted is the checksum of s, in the words of the chapter.
func shifted(s string) int {
	register := uint32(0xFFFFFFFF)
	for i := 0; i < len(s); i++ {
		register ^= uint32(s[i])
		for range 8 {
			out := register & 1
			register >>= 1
			if out == 1 {
				register ^= 0x82F63B78
			}
		}
	}
	return int(^register)
}

func TestSumOfKnownStrings(t *testing.T) {
	for _, c := range []struct {
		s    string
		want int
	}{
		{"", 0}, {"123456789", 0xE3069283}, {"123456789", 3808858755}, {"a", 3251651376},
		{strings.Repeat("\x00", 32), 0x8A9136AA}, {strings.Repeat("\xff", 32), 0x62A8AB43},
	} {
		if n := Sum(c.s); n != c.want {
			t.Errorf("Sum(%q) = %d, want %d", c.s, n, c.want)
		}
	}
}

func TestSumIsAsDefined(t *testing.T) {
	table := crc32.MakeTable(crc32.Castagnoli)
	check := func(s string) {
		t.Helper()
		if n := Sum(s); n != shifted(s) || n != int(crc32.Checksum([]byte(s), table)) {
			t.Errorf("Sum(%.20x) = %d, want %d", s, n, shifted(s))
		}
	}
	for b := range 256 {
		check(string([]byte{byte(b)}))
		check(string([]byte{0, byte(b), 0xff}))
	}
	r := rand.New(rand.NewSource(1))
	for size := range 300 {
		s := make([]byte, size)
		r.Read(s)
		check(string(s))
	}
	check(strings.Repeat("\x00\x80\xff", 1<<16))
}

// P1.4

func TestWhatIsPutIsReadWhateverSurroundsIt(t *testing.T) {
	sides := []string{"", "\x00", "\x80", "\xff\xff", "\x80\x00", encodedMax, strings.Repeat("\xff", 20)}
	for _, before := range sides {
		for _, behind := range sides {
			for _, n := range integers() {
				s, _ := PutInt(n)
				if m, after, e := Int(before+s+behind, len(before)); m != n || after != len(before+s) || e != api.OK {
					t.Fatalf("%d between %x and %x is read as %d, %d, %d", n, before, behind, m, after, e)
				}
			}
			for _, want := range sides {
				s, _ := PutString(want)
				if u, after, e := String(before+s+behind, len(before)); u != want || after != len(before+s) || e != api.OK {
					t.Fatalf("%x between %x and %x is read as %x, %d, %d", want, before, behind, u, after, e)
				}
			}
		}
	}
}

// accepted fails unless what Int and String accept at the beginning of s is exactly what PutInt and PutString return.
func accepted(t *testing.T, s string) {
	t.Helper()
	if n, after, e := Int(s, 0); e == api.OK {
		if put, f := PutInt(n); f != api.OK || put != s[:after] {
			t.Fatalf("Int accepts %x as %d, which is encoded as %x", s[:after], n, put)
		}
	}
	if u, after, e := String(s, 0); e == api.OK {
		if put, f := PutString(u); f != api.OK || put != s[:after] {
			t.Fatalf("String accepts %x as %x, which is encoded as %x", s[:after], u, put)
		}
	}
}

func TestOnlyWhatIsPutIsAccepted(t *testing.T) {
	for a := range 256 {
		accepted(t, string([]byte{byte(a)}))
		for b := range 256 {
			accepted(t, string([]byte{byte(a), byte(b)}))
			for c := range 256 {
				accepted(t, string([]byte{byte(a), byte(b), byte(c)}))
			}
		}
	}
	// Longer ones, mostly of groups that are near the ends: random bytes alone would rarely go on for long.
	r := rand.New(rand.NewSource(2))
	edges := []byte{0x00, 0x01, 0x7e, 0x7f, 0x80, 0x81, 0xfd, 0xfe, 0xff, 0xff, 0xff}
	for range 200000 {
		s := make([]byte, 1+r.Intn(12))
		for i := range s {
			s[i] = edges[r.Intn(len(edges))]
		}
		accepted(t, string(s))
	}
}

func TestEveryNumberOfGroupsIsAccepted(t *testing.T) {
	// The number of encodings of one byte is 128, of two bytes 127 * 128: all of those without a superfluous group.
	one, two := 0, 0
	for a := range 256 {
		if _, after, e := Int(string([]byte{byte(a)}), 0); e == api.OK && after == 1 {
			one++
		}
		for b := range 256 {
			if _, after, e := Int(string([]byte{byte(a), byte(b)}), 0); e == api.OK && after == 2 {
				two++
			}
		}
	}
	if one != 128 || two != 127*128 {
		t.Errorf("%d encodings of a byte and %d of two, want 128 and %d", one, two, 127*128)
	}
}

func TestEncodingIsInjectiveAndPrefixFree(t *testing.T) {
	ints := map[string]int{}
	for n := -20000; n <= 20000; n++ {
		s, _ := PutInt(n)
		if m, ok := ints[s]; ok {
			t.Fatalf("%d and %d have the encoding %x", m, n, s)
		}
		ints[s] = n
	}
	for _, n := range integers() {
		s, _ := PutInt(n)
		if m, ok := ints[s]; ok && m != n {
			t.Fatalf("%d and %d have the encoding %x", m, n, s)
		}
		ints[s] = n
	}
	for s, n := range ints {
		for i := 1; i < len(s); i++ {
			if m, ok := ints[s[:i]]; ok {
				t.Fatalf("the encoding of %d begins that of %d", m, n)
			}
		}
		for i := range s {
			if _, _, e := Int(s[:i], 0); e != api.ErrWire {
				t.Fatalf("the first %d bytes of %x are accepted", i, s)
			}
		}
	}
	texts := []string{"", "\x00", "\x01", "a", "ab", "abc", "\x02a", "\x04ab", strings.Repeat("a", 63), strings.Repeat("a", 64), strings.Repeat("a", 8192)}
	for i, u := range texts {
		for j, v := range texts {
			s, _ := PutString(u)
			w, _ := PutString(v)
			if i != j && strings.HasPrefix(s, w) {
				t.Errorf("the encoding of %.9x begins that of %.9x", v, u)
			}
		}
	}
}

func TestConcatenationsAreDecoded(t *testing.T) {
	r := rand.New(rand.NewSource(3))
	numbers := integers()
	for range 500 {
		var all strings.Builder
		var ints []int
		var texts []string
		for range r.Intn(20) {
			n := numbers[r.Intn(len(numbers))]
			b := make([]byte, r.Intn(100))
			r.Read(b)
			x, _ := PutInt(n)
			y, _ := PutString(string(b))
			all.WriteString(x + y)
			ints, texts = append(ints, n), append(texts, string(b))
		}
		s, at := all.String(), 0
		for i := range ints {
			n, next, e := Int(s, at)
			u, after, f := String(s, next)
			if n != ints[i] || u != texts[i] || e != api.OK || f != api.OK {
				t.Fatalf("the pair %d is read as %d, %x with the errors %d, %d", i, n, u, e, f)
			}
			at = after
		}
		if at != len(s) {
			t.Fatalf("%d bytes of %d were read", at, len(s))
		}
	}
}

// flipped is s with the bits of change flipped, beginning at the bit with the index at: those of each byte are counted from the lowest one.
func flipped(s string, at int, change uint32) string {
	b := []byte(s)
	for i := range 32 {
		if change>>i&1 == 1 {
			b[(at+i)/8] ^= 1 << ((at + i) % 8)
		}
	}
	return string(b)
}

func TestSumTellsShortChanges(t *testing.T) {
	r := rand.New(rand.NewSource(4))
	changes := []uint32{0xFFFFFFFF, 0x82F63B78, 0x82F63B79, 0xAAAAAAAA, 0x55555555, 0x80000001}
	for i := range 32 {
		changes = append(changes, 1<<i)
		for j := range i {
			changes = append(changes, 1<<i|1<<j)
		}
	}
	for range 500 {
		changes = append(changes, r.Uint32()|1)
	}
	for _, s := range []string{strings.Repeat("\x00", 8), strings.Repeat("\xff", 9), "123456789", "\x00\x00\x00\x00\xff\xff\xff\xff123456789"} {
		sum := Sum(s)
		for at := 0; at+32 <= 8*len(s); at++ {
			for _, change := range changes {
				if u := flipped(s, at, change); Sum(u) == sum {
					t.Fatalf("%x and %x have the same sum", s, u)
				}
			}
		}
	}
}

// TestSumTellsEveryShortChange follows from the sums of 32 single bits: a change of the bits alters the sum by the XOR of what each of them alters, and no XOR of some of these is zero.
func TestSumTellsEveryShortChange(t *testing.T) {
	for behind := range 40 {
		zero := strings.Repeat("\x00", 5+behind)
		for at := range 8 {
			var rows []uint32
			for i := range 32 {
				rows = append(rows, uint32(Sum(flipped(zero, at, 1<<i))^Sum(zero)))
			}
			if rank(rows) != 32 {
				t.Fatalf("there are changes at the bit %d, with %d bytes behind them, that Sum does not tell", at, behind)
			}
		}
	}
}

// rank is the greatest number of rows of which no XOR is zero. It changes the rows.
func rank(rows []uint32) int {
	n := 0
	for bit := range 32 {
		for i := n; i < len(rows); i++ {
			if rows[i]>>bit&1 == 0 {
				continue
			}
			rows[n], rows[i] = rows[i], rows[n]
			for j := n + 1; j < len(rows); j++ {
				if rows[j]>>bit&1 == 1 {
					rows[j] ^= rows[n]
				}
			}
			n++
			break
		}
	}
	return n
}

// R4: the same arguments have the same result, whatever was called before.
func TestCallsKeepNoState(t *testing.T) {
	for range 3 {
		Int("\x80\x00", 0)
		PutInt(api.MaxInt)
		String(encodedMax, 0)
		Sum("abc")
		if s, e := PutInt(-64); s != "\x7f" || e != api.OK {
			t.Errorf("PutInt(-64) = %x, %d", s, e)
		}
		if n := Sum("123456789"); n != 3808858755 {
			t.Errorf("Sum(123456789) = %d", n)
		}
	}
}

func FuzzDecode(f *testing.F) {
	for _, s := range []string{"", "\x00", "\x80\x00", "\xac\x02", "\x04ab", encodedMax, encodedMin} {
		f.Add(s, 0)
	}
	f.Add("ab\x04ab", 2)
	f.Fuzz(func(t *testing.T, s string, at int) {
		_, after, e := Int(s, at)
		u, end, g := String(s, at)
		if at < 0 || at > len(s) {
			if e != api.ErrArg || g != api.ErrArg || after != 0 || end != 0 || u != "" {
				t.Fatalf("%x at %d: %d, %d", s, at, e, g)
			}
			return
		}
		accepted(t, s[at:])
		if e != api.OK && (e != api.ErrWire || after != 0 || g != api.ErrWire || end != 0 || u != "") {
			t.Fatalf("%x at %d: %d, %d", s, at, e, g)
		}
		if n := Sum(s); n != shifted(s) {
			t.Fatalf("Sum(%x) = %d", s, n)
		}
	})
}
