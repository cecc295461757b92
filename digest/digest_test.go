package digest

import (
	"crypto/sha256"
	"encoding/binary"
	"encoding/hex"
	"math/rand"
	"strings"
	"testing"

	"aircheck/api"
)

// sha is the digest of the parts, one after the other, as the standard library has it.
func sha(parts ...string) string {
	sum := sha256.Sum256([]byte(strings.Join(parts, "")))
	return string(sum[:])
}

// randomString returns a string of size random bytes.
func randomString(r *rand.Rand, size int) string {
	s := make([]byte, size)
	r.Read(s)
	return string(s)
}

// P2.1

func TestSumOfKnownStrings(t *testing.T) {
	for _, c := range []struct{ s, want string }{
		{"", "e3b0c44298fc1c149afbf4c8996fb92427ae41e4649b934ca495991b7852b855"},
		{"abc", "ba7816bf8f01cfea414140de5dae2223b00361a396177a9cb410ff61f20015ad"},
		{"abcdbcdecdefdefgefghfghighijhijkijkljklmklmnlmnomnopnopq", "248d6a61d20638b8e5c026930c3e6039a33ce45964ff2167f6ecedd419db06c1"},
		{"abcdefghbcdefghicdefghijdefghijkefghijklfghijklmghijklmnhijklmnoijklmnopjklmnopqklmnopqrlmnopqrsmnopqrstnopqrstu", "cf5b16a778af8380036ce59e7b0492370b249b11e8f07a51afac45037afee9d1"},
		{strings.Repeat("a", 1000000), "cdc76e5c9914fb9281a1c7e284d73e67f1809a48a497200e046d39ccc7112cd0"},
	} {
		if got := hex.EncodeToString([]byte(Sum(c.s))); got != c.want {
			t.Errorf("Sum(%.9q) = %s, want %s", c.s, got, c.want)
		}
	}
	if got := hex.EncodeToString([]byte(Leaf("abc"))); got != "609f6e36d2405585188d5cfd761f407c7cc46a7d3f314c88270469dde315fcd1" {
		t.Errorf("Leaf(abc) = %s", got)
	}
}

func TestSumOfEveryLength(t *testing.T) {
	r := rand.New(rand.NewSource(1))
	check := func(s string) {
		t.Helper()
		if got := Sum(s); got != sha(s) {
			t.Errorf("Sum of %d bytes, %.20x: %x, want %x", len(s), s, got, sha(s))
		}
	}
	// The padding takes a block of its own from 56 bytes on in the last block: 55, 56, 63, 64, 119 and 120 are the ends.
	for size := range 400 {
		check(strings.Repeat("\x00", size))
		check(strings.Repeat("\x80", size))
		check(strings.Repeat("\xff", size))
		check(randomString(r, size))
	}
	for _, size := range []int{8191, 8192, 8193, api.MaxString - 1, api.MaxString, api.MaxString + 1, 1 << 20, 1<<24 + 55} {
		check(randomString(r, size))
	}
}

func TestSumOfEveryByte(t *testing.T) {
	for b := range 256 {
		for _, at := range []int{0, 54, 55, 56, 63, 64, 118, 119} {
			s := []byte(strings.Repeat("z", 120))
			s[at] = byte(b)
			if got := Sum(string(s)); got != sha(string(s)) {
				t.Errorf("the byte %x at %d: %x, want %x", b, at, got, sha(string(s)))
			}
		}
	}
}

// TestPaddingOfLongStrings stands for strings whose lengths in bits need more than four bytes, which take long to sum.
func TestPaddingOfLongStrings(t *testing.T) {
	for _, size := range []int{0, 1, 55, 56, 64, 1<<29 - 1, 1 << 29, 1<<29 + 55, 1<<29 + 56, 1<<31 - 1, 1 << 40} {
		p := padding(size)
		zeros, length := p[1:len(p)-8], binary.BigEndian.Uint64([]byte(p[len(p)-8:]))
		if p[0] != 128 || strings.Trim(zeros, "\x00") != "" || (size+len(p))%64 != 0 || len(p) > 72 || length != 8*uint64(size) {
			t.Errorf("the padding of %d bytes: %x", size, p)
		}
	}
}

func TestMarks(t *testing.T) {
	r := rand.New(rand.NewSource(2))
	check := func(a, b string) {
		t.Helper()
		if got := Chain(a, b); got != sha("\x02", a, b) {
			t.Errorf("Chain(%.20x, %.20x) = %x", a, b, got)
		}
		if got := Node(a, b); got != sha("\x01", a, b) {
			t.Errorf("Node(%.20x, %.20x) = %x", a, b, got)
		}
		if got := Leaf(b); got != sha("\x00", b) {
			t.Errorf("Leaf(%.20x) = %x", b, got)
		}
	}
	// No digests too: the strings may be any.
	sizes := []int{0, 1, 2, 30, 31, 32, 33, 54, 55, 56, 62, 63, 64, 65, 118, 119, 120, 127, 128, 200}
	for _, n := range sizes {
		for _, m := range sizes {
			check(randomString(r, n), randomString(r, m))
		}
	}
	check("", randomString(r, 1<<20))
	check(randomString(r, 1<<20), "")
}

// R1, R2: every result is a digest.

func TestResultsAreDigests(t *testing.T) {
	for _, s := range []string{"", "a", strings.Repeat("\x00", 64)} {
		for _, got := range []string{Sum(s), Leaf(s), Chain(s, s), Node(s, s), Root([]string{s})} {
			if len(got) != api.DigestSize {
				t.Errorf("%x has %d bytes", got, len(got))
			}
		}
	}
}

// P2.3

// head is the head of a list of records, in the words of the chapter.
func head(records []string) string {
	if len(records) == 0 {
		return strings.Repeat("\x00", api.DigestSize)
	}
	last := len(records) - 1
	return Chain(head(records[:last]), records[last])
}

// lists calls visit with every list of at most size entries, each of them one of those of choice.
func lists(size int, choice []string, visit func([]string)) {
	var grow func(l []string)
	grow = func(l []string) {
		visit(l)
		if len(l) == size {
			return
		}
		for _, s := range choice {
			grow(append(l, s))
		}
	}
	grow(make([]string, 0, size))
}

// ambiguous are strings that could be taken for one another if they were put together without care.
func ambiguous() []string {
	zero := strings.Repeat("\x00", api.DigestSize)
	a, b := Leaf("a"), Leaf("b")
	return []string{"", "\x00", "\x01", "\x02", "a", "aa", zero, zero + "a", "\x02" + zero + "a", a, a + b, "\x01" + a + b, Chain(zero, "a")}
}

func TestHeadsTellListsOfRecords(t *testing.T) {
	seen := map[string][]string{}
	lists(4, ambiguous(), func(l []string) {
		h := head(l)
		if other, ok := seen[h]; ok {
			t.Fatalf("%x and %x have the same head", other, l)
		}
		seen[h] = append([]string(nil), l...)
	})
}

func TestMarksTellTheUsesOfSum(t *testing.T) {
	// Each string of which a use computes the Sum begins with a mark of its own.
	a, b := Leaf("a"), Leaf("b")
	sums := map[string]string{}
	for name, sum := range map[string]string{
		"Sum": Sum(a + b), "Leaf": Leaf(a + b), "Node": Node(a, b), "Chain": Chain(a, b), "a leaf of a node": Leaf("\x01" + a + b), "a leaf of a leaf": Leaf("\x00" + a + b),
	} {
		if other, ok := sums[sum]; ok {
			t.Errorf("%s and %s are the same", name, other)
		}
		sums[sum] = name
	}
	if Sum("\x00"+a+b) != Leaf(a+b) || Sum("\x01"+a+b) != Node(a, b) || Sum("\x02"+a+b) != Chain(a, b) {
		t.Error("a use does not begin with its mark")
	}
}

// R4: the same arguments have the same result, whatever was called before.

func TestCallsKeepNoState(t *testing.T) {
	l := []string{"a", "b", "c"}
	proof, _ := Proof(l, 1)
	extension, _ := Extension(l, 2)
	for range 3 {
		Sum(strings.Repeat("x", 100))
		Chain("", "")
		Proof(nil, 0)
		Verify("", 3, 1, "b", proof)
		Extension(l, 4)
		if Sum("abc") != sha("abc") || Root(l) != treeRoot(l) || !Verify(Root(l), 3, 1, "b", proof) || !VerifyExtension(Root(l[:2]), 2, Root(l), 3, extension) {
			t.Fatal("a result has changed")
		}
	}
}

func FuzzSum(f *testing.F) {
	f.Add("", "")
	f.Add("abc", strings.Repeat("a", 55))
	f.Add(strings.Repeat("\x00", 32), strings.Repeat("\xff", 120))
	f.Fuzz(func(t *testing.T, a, b string) {
		if Sum(a) != sha(a) || Leaf(a) != sha("\x00", a) || Node(a, b) != sha("\x01", a, b) || Chain(a, b) != sha("\x02", a, b) {
			t.Fatalf("%x, %x", a, b)
		}
	})
}
