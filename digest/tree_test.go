package digest

import (
	"math"
	"math/bits"
	"math/rand"
	"slices"
	"strconv"
	"strings"
	"testing"

	"aircheck/api"
)

// The functions up to twoValues are those of the chapter, in its words, on the standard library's digests.

// split is the greatest power of two that is less than n.
func split(n int) int {
	k := 1
	for k < n-k {
		k *= 2
	}
	return k
}

func treeLeaf(s string) string    { return sha("\x00", s) }
func treeNode(a, b string) string { return sha("\x01", a, b) }

func treeRoot(l []string) string {
	switch len(l) {
	case 0:
		return sha("")
	case 1:
		return treeLeaf(l[0])
	}
	k := split(len(l))
	return treeNode(treeRoot(l[:k]), treeRoot(l[k:]))
}

func treeProof(l []string, i int) []string {
	if len(l) == 1 {
		return nil
	}
	k := split(len(l))
	if i < k {
		return append(treeProof(l[:k], i), treeRoot(l[k:]))
	}
	return append(treeProof(l[k:], i-k), treeRoot(l[:k]))
}

func treePart(l []string, m int, whole bool) []string {
	if m == len(l) {
		if whole {
			return nil
		}
		return []string{treeRoot(l)}
	}
	k := split(len(l))
	if m <= k {
		return append(treePart(l[:k], m, whole), treeRoot(l[k:]))
	}
	return append(treePart(l[k:], m-k, false), treeRoot(l[:k]))
}

func treeExtension(l []string, m int) []string {
	if m == 0 || m == len(l) {
		return nil
	}
	return treePart(l, m, true)
}

// last returns the elements of a proof but the last one, and that one.
func last(proof []string) ([]string, string) {
	return proof[:len(proof)-1], proof[len(proof)-1]
}

func value(n, i int, s string, proof []string) (string, bool) {
	if n == 1 {
		return treeLeaf(s), len(proof) == 0
	}
	if len(proof) == 0 {
		return "", false
	}
	rest, x := last(proof)
	k := split(n)
	if i < k {
		v, ok := value(k, i, s, rest)
		return treeNode(v, x), ok
	}
	v, ok := value(n-k, i-k, s, rest)
	return treeNode(x, v), ok
}

func twoValues(old string, m, n int, proof []string, whole bool) (string, string, bool) {
	if m == n && whole {
		return old, old, len(proof) == 0
	}
	if m == n {
		if len(proof) != 1 {
			return "", "", false
		}
		return proof[0], proof[0], true
	}
	if len(proof) == 0 {
		return "", "", false
	}
	rest, x := last(proof)
	k := split(n)
	if m <= k {
		v, w, ok := twoValues(old, m, k, rest, whole)
		return v, treeNode(w, x), ok
	}
	v, w, ok := twoValues(old, m-k, n-k, rest, false)
	return treeNode(x, v), treeNode(x, w), ok
}

// digests reports whether all of l are digests.
func digests(l ...string) bool {
	for _, s := range l {
		if len(s) != 32 {
			return false
		}
	}
	return true
}

func shows(root string, n, i int, s string, proof []string) bool {
	if i < 0 || i >= n || !digests(proof...) {
		return false
	}
	v, ok := value(n, i, s, proof)
	return ok && v == root
}

func showsExtension(old string, m int, root string, n int, proof []string) bool {
	if m < 0 || m > n || !digests(proof...) || !digests(old, root) {
		return false
	}
	if m == 0 {
		return len(proof) == 0 && old == sha("")
	}
	if m == n {
		return len(proof) == 0 && old == root
	}
	v, w, ok := twoValues(old, m, n, proof, true)
	return ok && v == old && w == root
}

// most is the number of entries of the longest list of the tests that try all shorter ones.
const most = 40

// entries returns n different entries.
func entries(n int) []string {
	l := make([]string, n)
	for i := range l {
		l[i] = strconv.Itoa(i * i)
	}
	return l
}

// changed returns s with one bit of the byte at flipped.
func changed(s string, at int) string {
	b := []byte(s)
	b[at] ^= 1 << (at % 8)
	return string(b)
}

// replaced returns a copy of l with s in the place of its element at.
func replaced(l []string, at int, s string) []string {
	out := slices.Clone(l)
	out[at] = s
	return out
}

// badProofs returns proofs that are made from a good one by one mistake, which its name says.
func badProofs(proof []string) map[string][]string {
	zero, alien := strings.Repeat("\x00", 32), Sum("any")
	out := map[string][]string{
		"a digest too many at the beginning": slices.Concat([]string{alien}, proof),
		"a digest too many at the end":       slices.Concat(proof, []string{alien}),
		"a zero digest too many":             slices.Concat(proof, []string{zero}),
		"no digest at the end":               slices.Concat(proof, []string{""}),
	}
	for i, x := range proof {
		name := strconv.Itoa(i)
		out[name+" lacks"] = slices.Concat(proof[:i], proof[i+1:])
		out[name+" is twice"] = slices.Insert(slices.Clone(proof), i, x)
		out[name+" is empty"] = replaced(proof, i, "")
		out[name+" is too short"] = replaced(proof, i, x[:31])
		out[name+" is too long"] = replaced(proof, i, x+"\x00")
		out[name+" has another first byte"] = replaced(proof, i, changed(x, 0))
		out[name+" has another last byte"] = replaced(proof, i, changed(x, 31))
		out[name+" is another digest"] = replaced(proof, i, alien)
		if i > 0 {
			out[name+" is exchanged"] = replaced(replaced(proof, i, proof[i-1]), i-1, x)
			out[name+" has a byte of the one before"] = replaced(replaced(proof, i, proof[i-1][31:]+x), i-1, proof[i-1][:31])
			out[name+" has lost a byte to the one before"] = replaced(replaced(proof, i, x[1:]), i-1, proof[i-1]+x[:1])
		}
	}
	return out
}

// P2.1

func TestRoot(t *testing.T) {
	if Root(nil) != Sum("") || Root([]string{}) != Sum("") {
		t.Error("the root of no entries")
	}
	a, b, c := Leaf("a"), Leaf("b"), Leaf("c")
	if Root([]string{"a"}) != a || Root([]string{"a", "b"}) != Node(a, b) || Root([]string{"a", "b", "c"}) != Node(Node(a, b), c) {
		t.Error("the root of a, b and c")
	}
	for n := range 200 {
		if l := entries(n); Root(l) != treeRoot(l) {
			t.Errorf("the root of %d entries: %x, want %x", n, Root(l), treeRoot(l))
		}
		if l := make([]string, n); Root(l) != treeRoot(l) {
			t.Errorf("the root of %d empty entries: %x, want %x", n, Root(l), treeRoot(l))
		}
	}
}

func TestProofOfThreeEntries(t *testing.T) {
	l := []string{"x", "y", "z"}
	x, y, z := Leaf("x"), Leaf("y"), Leaf("z")
	for i, want := range [][]string{{y, z}, {x, z}, {Node(x, y)}} {
		if proof, e := Proof(l, i); !slices.Equal(proof, want) || e != api.OK {
			t.Errorf("the proof of %d: %x, %d; want %x", i, proof, e, want)
		}
	}
	for m, want := range [][]string{{}, {y, z}, {z}, {}} {
		if proof, e := Extension(l, m); !slices.Equal(proof, want) || e != api.OK {
			t.Errorf("the extension of %d: %x, %d; want %x", m, proof, e, want)
		}
	}
}

func TestProofOfEveryEntry(t *testing.T) {
	for n := range most + 1 {
		l := entries(n)
		for i := range l {
			if proof, e := Proof(l, i); !slices.Equal(proof, treeProof(l, i)) || e != api.OK {
				t.Errorf("the proof of %d of %d: %x, %d", i, n, proof, e)
			}
		}
	}
}

func TestProofRefusesIndexes(t *testing.T) {
	for n := range most + 1 {
		for _, i := range []int{-1, -2, -n, n, n + 1, 2 * n, math.MinInt, math.MaxInt} {
			if i == 0 && n > 0 {
				continue
			}
			if proof, e := Proof(entries(n), i); len(proof) != 0 || e != api.ErrArg {
				t.Errorf("the proof of %d of %d: %x, %d; want ErrArg", i, n, proof, e)
			}
		}
	}
	if proof, e := Proof(nil, 0); len(proof) != 0 || e != api.ErrArg {
		t.Errorf("the proof of 0 of nothing: %x, %d; want ErrArg", proof, e)
	}
}

func TestExtensionOfEveryBeginning(t *testing.T) {
	for n := range most + 1 {
		l := entries(n)
		for m := range n + 1 {
			if proof, e := Extension(l, m); !slices.Equal(proof, treeExtension(l, m)) || e != api.OK {
				t.Errorf("the extension of %d to %d: %x, %d", m, n, proof, e)
			}
		}
	}
}

func TestExtensionRefusesNumbers(t *testing.T) {
	for n := range most + 1 {
		for _, m := range []int{-1, -2, -n - 1, n + 1, n + 2, 2*n + 1, math.MinInt, math.MaxInt} {
			if proof, e := Extension(entries(n), m); len(proof) != 0 || e != api.ErrArg {
				t.Errorf("the extension of %d to %d: %x, %d; want ErrArg", m, n, proof, e)
			}
		}
	}
}

func TestVerifyRefusesMistakes(t *testing.T) {
	for n := 1; n <= most; n++ {
		l := entries(n)
		root := Root(l)
		for i, s := range l {
			proof, _ := Proof(l, i)
			for why, bad := range badProofs(proof) {
				want := shows(root, n, i, s, bad)
				if want || Verify(root, n, i, s, bad) {
					t.Errorf("%d of %d: %s, but it is accepted", i, n, why)
				}
			}
			for _, other := range []string{"", root[:31], root + "\x00", changed(root, 0), changed(root, 31), Sum(""), Leaf(s + "x")} {
				if Verify(other, n, i, s, proof) {
					t.Errorf("%d of %d: the root %x is accepted", i, n, other)
				}
			}
		}
	}
}

func TestVerifyRefusesNumbers(t *testing.T) {
	for n := 1; n <= most; n++ {
		l := entries(n)
		root := Root(l)
		for i, s := range l {
			proof, _ := Proof(l, i)
			for _, size := range []int{0, -1, -n, math.MinInt, i} {
				if Verify(root, size, i, s, proof) {
					t.Errorf("%d of %d: it is accepted for %d entries", i, n, size)
				}
			}
			for _, index := range []int{-1, i - n, n, n + i, math.MinInt, math.MaxInt} {
				if index >= 0 && index < n {
					continue
				}
				if Verify(root, n, index, s, proof) {
					t.Errorf("%d of %d: it is accepted for %d", i, n, index)
				}
			}
		}
	}
	for _, n := range []int{0, -1, 1, math.MinInt} {
		for _, i := range []int{0, -1, 1, n, n - 1} {
			if n == 1 && i == 0 {
				continue
			}
			if Verify(Leaf("a"), n, i, "a", nil) || Verify(Sum(""), n, i, "", nil) {
				t.Errorf("%d of %d is accepted", i, n)
			}
		}
	}
}

func TestVerifyExtensionRefusesMistakes(t *testing.T) {
	for n := range most + 1 {
		l := entries(n)
		root := Root(l)
		for m := range n + 1 {
			old := Root(l[:m])
			proof, _ := Extension(l, m)
			for why, bad := range badProofs(proof) {
				want := showsExtension(old, m, root, n, bad)
				if want || VerifyExtension(old, m, root, n, bad) {
					t.Errorf("%d to %d: %s, but it is accepted", m, n, why)
				}
			}
			for _, other := range []string{"", old[:31], old + "\x00", changed(old, 0), changed(old, 31), Sum("any")} {
				if VerifyExtension(other, m, root, n, proof) {
					t.Errorf("%d to %d: the old root %x is accepted", m, n, other)
				}
			}
			for _, other := range []string{"", root[:31], root + "\x00"} {
				if VerifyExtension(old, m, other, n, proof) {
					t.Errorf("%d to %d: the root %x is accepted", m, n, other)
				}
			}
			for _, other := range []string{changed(root, 0), changed(root, 31), Sum("any")} {
				if VerifyExtension(old, m, other, n, proof) != (m == 0) {
					t.Errorf("%d to %d: the root %x", m, n, other)
				}
			}
		}
	}
}

func TestVerifyExtensionRefusesNumbers(t *testing.T) {
	for n := range most + 1 {
		l := entries(n)
		root := Root(l)
		for m := range n + 1 {
			old := Root(l[:m])
			proof, _ := Extension(l, m)
			for _, size := range []int{-1, -n - 1, m - 1, math.MinInt} {
				if VerifyExtension(old, m, root, size, proof) {
					t.Errorf("%d to %d: it is accepted for %d entries", m, n, size)
				}
			}
			for _, begin := range []int{-1, -m - 1, m - n - 1, n + 1, n + m + 1, math.MinInt, math.MaxInt} {
				if VerifyExtension(old, begin, root, n, proof) {
					t.Errorf("%d to %d: it is accepted for the first %d", m, n, begin)
				}
			}
		}
	}
}

func TestVerifyExtensionOfNothing(t *testing.T) {
	empty, alien := Sum(""), Sum("any")
	for _, n := range []int{0, 1, 2, 3, 1000, math.MaxInt} {
		if !VerifyExtension(empty, 0, alien, n, nil) || !VerifyExtension(empty, 0, empty, n, []string{}) {
			t.Errorf("0 to %d is refused", n)
		}
		for _, c := range []struct {
			old, root string
			proof     []string
		}{
			{alien, alien, nil}, {alien, empty, nil}, {Leaf(""), alien, nil}, {strings.Repeat("\x00", 32), alien, nil},
			{"", alien, nil}, {empty, "", nil}, {empty, alien[:31], nil}, {empty, alien + "\x00", nil},
			{empty, alien, []string{alien}}, {empty, alien, []string{empty}}, {empty, alien, []string{""}},
		} {
			if VerifyExtension(c.old, 0, c.root, n, c.proof) {
				t.Errorf("0 to %d is accepted: %x, %x, %x", n, c.old, c.root, c.proof)
			}
		}
	}
	if VerifyExtension(empty, 0, alien, -1, nil) || VerifyExtension(empty, 0, alien, math.MinInt, nil) {
		t.Error("0 to less than nothing is accepted")
	}
}

func TestVerifyExtensionOfAll(t *testing.T) {
	a, b := Sum("a"), Sum("b")
	for _, n := range []int{1, 2, 3, 64, math.MaxInt} {
		if !VerifyExtension(a, n, a, n, nil) {
			t.Errorf("%d to %d is refused", n, n)
		}
		if VerifyExtension(a, n, b, n, nil) || VerifyExtension(a, n, a, n, []string{a}) || VerifyExtension("a", n, "a", n, nil) {
			t.Errorf("%d to %d is accepted", n, n)
		}
	}
}

// TestVerifyIsAsDefined compares the verifiers with the chapter's words for lists longer than any that fits into memory, with proofs that are made for them.
func TestVerifyIsAsDefined(t *testing.T) {
	r := rand.New(rand.NewSource(3))
	sizes := []int{1, 2, 3, 4, 5, 1<<20 + 1, 1 << 40, 1<<62 - 1, 1 << 62, 1<<62 + 1, math.MaxInt - 1, math.MaxInt}
	for _, n := range sizes {
		for range 60 {
			i := pick(r, n)
			var proof []string
			for range r.Intn(66) {
				proof = append(proof, randomString(r, 32))
			}
			if d := depth(n, i); r.Intn(3) > 0 {
				proof = proof[:min(d, len(proof))]
				for len(proof) < d {
					proof = append(proof, Sum(strconv.Itoa(len(proof))))
				}
			}
			root, ok := value(n, i, "s", proof)
			if Verify(root, n, i, "s", proof) != ok || Verify(root, n, i, "t", proof) {
				t.Fatalf("%d of %d with %d digests", i, n, len(proof))
			}
			compareExtension(t, i+1, n, proof)
		}
	}
}

// pick returns a number from 0 to n - 1, often one that is near an end.
func pick(r *rand.Rand, n int) int {
	switch r.Intn(3) {
	case 0:
		return min(n-1, r.Intn(5))
	case 1:
		return max(0, n-1-r.Intn(5))
	}
	return r.Intn(n)
}

// depth is the number of halvings from n entries to the one with the index i.
func depth(n, i int) int {
	d := 0
	for ; n > 1; d++ {
		k := split(n)
		if i < k {
			n = k
		} else {
			n, i = n-k, i-k
		}
	}
	return d
}

// compareExtension fails unless VerifyExtension accepts every beginning of the proof, with the roots that fit to it, just as the chapter says.
func compareExtension(t *testing.T, m, n int, proof []string) {
	t.Helper()
	for size := range len(proof) + 1 {
		some := proof[:size]
		old, root, ok := twoValues(Sum("old"), m, n, some, true)
		if !ok {
			old, root = Sum("old"), Sum("root")
		}
		if VerifyExtension(old, m, root, n, some) != showsExtension(old, m, root, n, some) {
			t.Fatalf("%d to %d with %d digests", m, n, size)
		}
	}
}

func TestVerifyTerminates(t *testing.T) {
	long := slices.Repeat([]string{Sum("")}, 100000)
	for _, n := range []int{1, 2, 1000, math.MaxInt} {
		for _, proof := range [][]string{nil, long[:1], long[:62], long[:63], long[:64], long} {
			for _, i := range []int{0, 1, n / 2, n - 1, n} {
				if Verify(Sum("root"), n, i, "", proof) {
					t.Errorf("%d of %d is accepted", i, n)
				}
				if i > 0 && VerifyExtension(Sum("old"), i, Sum("root"), n, proof) {
					t.Errorf("%d to %d is accepted", i, n)
				}
			}
		}
	}
}

// P2.2

func TestProofsAreAcceptedAndShort(t *testing.T) {
	for n := 1; n <= 3*most; n++ {
		l := entries(n)
		root := Root(l)
		for i, s := range l {
			proof, e := Proof(l, i)
			if e != api.OK || !Verify(root, n, i, s, proof) {
				t.Errorf("the proof of %d of %d is refused", i, n)
			}
			if len(proof) > bits.Len(uint(n)) {
				t.Errorf("the proof of %d of %d has %d elements", i, n, len(proof))
			}
		}
	}
}

func TestExtensionsAreAcceptedAndShort(t *testing.T) {
	for n := range 3*most + 1 {
		l := entries(n)
		root := Root(l)
		for m := range n + 1 {
			proof, e := Extension(l, m)
			if e != api.OK || !VerifyExtension(Root(l[:m]), m, root, n, proof) {
				t.Errorf("the extension of %d to %d is refused", m, n)
			}
			if len(proof) > 2*bits.Len(uint(n)) {
				t.Errorf("the extension of %d to %d has %d elements", m, n, len(proof))
			}
		}
	}
}

func TestEntriesMayBeAnyStrings(t *testing.T) {
	lists(3, ambiguous(), func(l []string) {
		root := Root(l)
		for i, s := range l {
			if proof, e := Proof(l, i); e != api.OK || !Verify(root, len(l), i, s, proof) {
				t.Fatalf("the proof of %d of %x is refused", i, l)
			}
		}
		for m := range len(l) + 1 {
			if proof, e := Extension(l, m); e != api.OK || !VerifyExtension(Root(l[:m]), m, root, len(l), proof) {
				t.Fatalf("the extension of %d to %x is refused", m, l)
			}
		}
	})
}

// P2.3

func TestRootsTellLists(t *testing.T) {
	seen := map[string][]string{}
	lists(4, ambiguous(), func(l []string) {
		// The number of entries is an argument of Verify: only lists of the same length must be told by their roots. Marks tell the others.
		root := Root(l)
		if other, ok := seen[root]; ok {
			t.Fatalf("%x and %x have the same root", other, l)
		}
		seen[root] = slices.Clone(l)
	})
}

func TestVerifyAcceptsOneEntry(t *testing.T) {
	for n := 1; n <= most; n++ {
		l := entries(n)
		root := Root(l)
		for i := range l {
			proof, _ := Proof(l, i)
			others := append(ambiguous(), root, "\x00"+l[i], "\x01"+strings.Join(proof, ""), l[i]+"\x00")
			for j, s := range slices.Concat(l, others) {
				if Verify(root, n, i, s, proof) != (j == i) {
					t.Errorf("%d of %d: the entry %x", i, n, s)
				}
			}
		}
	}
}

func TestVerifyAcceptsNoProofOfAnotherIndex(t *testing.T) {
	for n := 1; n <= most; n++ {
		l := entries(n)
		root := Root(l)
		for i, s := range l {
			proof, _ := Proof(l, i)
			for j := range l {
				if Verify(root, n, j, s, proof) != (j == i) {
					t.Errorf("the proof of %d of %d for %d", i, n, j)
				}
			}
		}
	}
}

// TestNoNodeIsAnEntry takes the string of which the digest of a node is computed for an entry of a shorter list, and for one in the place of two entries.
func TestNoNodeIsAnEntry(t *testing.T) {
	a, b, c := Leaf("a"), Leaf("b"), Leaf("c")
	root := Root([]string{"a", "b", "c"})
	for _, s := range []string{a + b, "\x01" + a + b, "\x00" + a + b, Node(a, b)} {
		if Verify(root, 2, 0, s, []string{c}) || Verify(root, 3, 0, s, []string{c}) || Verify(Node(a, b), 1, 0, s, nil) {
			t.Errorf("%x is accepted", s)
		}
	}
}

// P2.4

func TestVerifyExtensionAcceptsOneOldRoot(t *testing.T) {
	for n := 1; n <= most; n++ {
		l := entries(n)
		root := Root(l)
		for m := range n + 1 {
			proof, _ := Extension(l, m)
			for k := range n + 1 {
				if VerifyExtension(Root(l[:k]), m, root, n, proof) != (k == m) {
					t.Errorf("%d to %d: the first %d", m, n, k)
				}
				other, _ := Extension(l, k)
				if k != m && VerifyExtension(Root(l[:k]), m, root, n, other) {
					t.Errorf("%d to %d: the proof of the first %d", m, n, k)
				}
			}
			if m > 0 {
				forged := replaced(l[:m], m-1, "forged")
				bad, _ := Extension(slices.Concat(forged, l[m:]), m)
				if VerifyExtension(Root(forged), m, root, n, proof) || VerifyExtension(Root(forged), m, root, n, bad) {
					t.Errorf("%d to %d: a forged beginning", m, n)
				}
			}
		}
	}
}

// TestBytesDoNotMoveBetweenDigests has proofs whose nodes are the right strings, but with digests that end elsewhere: only their sizes are wrong.
func TestBytesDoNotMoveBetweenDigests(t *testing.T) {
	l := []string{"a", "b", "c", "d"}
	a, b, c, d := Leaf("a"), Leaf("b"), Leaf("c"), Leaf("d")
	ab, root := Node(a, b), Root(l)
	if !VerifyExtension(Root(l[:3]), 3, root, 4, []string{c, d, ab}) {
		t.Fatal("the true beginning is refused")
	}
	for _, size := range []int{0, 1, 31, 33, 63, 64} {
		whole := c + d
		first, second := whole[:size], whole[size:]
		if Node(first, second) != Node(c, d) {
			t.Fatal("the nodes differ")
		}
		if VerifyExtension(Node(ab, first), 3, root, 4, []string{first, second, ab}) {
			t.Errorf("3 to 4: a digest of %d bytes is accepted", size)
		}
		whole = a + b
		if VerifyExtension(whole[:size], 1, ab, 2, []string{whole[size:]}) {
			t.Errorf("1 to 2: a digest of %d bytes is accepted", size)
		}
	}
}

// TestOnlyDigestsAreAccepted has roots that are made for what is no digest, so that nothing but its size is wrong.
func TestOnlyDigestsAreAccepted(t *testing.T) {
	for n := 2; n <= most; n++ {
		l := entries(n)
		for i, s := range l {
			proof, _ := Proof(l, i)
			extension, _ := Extension(l, i)
			for _, size := range []int{0, 1, 31, 33, 64} {
				other := strings.Repeat("o", size)
				for at := range proof {
					bad := replaced(proof, at, other)
					if root, ok := value(n, i, s, bad); !ok || Verify(root, n, i, s, bad) {
						t.Errorf("%d of %d: %d bytes at %d are accepted", i, n, size, at)
					}
				}
				for at := range extension {
					bad := replaced(extension, at, other)
					if old, root, ok := twoValues(Root(l[:i]), i, n, bad, true); !ok || VerifyExtension(old, i, root, n, bad) {
						t.Errorf("%d to %d: %d bytes at %d are accepted", i, n, size, at)
					}
				}
				if bits.OnesCount(uint(i)) == 1 {
					// The old list is a whole part, whose root is taken from the argument.
					if old, root, ok := twoValues(other, i, n, extension, true); !ok || VerifyExtension(old, i, root, n, extension) {
						t.Errorf("%d to %d: an old root of %d bytes is accepted", i, n, size)
					}
				}
			}
		}
	}
	for _, s := range []string{"", "a", strings.Repeat("o", 31), strings.Repeat("o", 33)} {
		if VerifyExtension(s, 5, s, 5, nil) || VerifyExtension(Sum(""), 0, s, 5, nil) {
			t.Errorf("the root %q is accepted", s)
		}
	}
}

// R3

func TestArgumentsAreLeftAlone(t *testing.T) {
	room := slices.Repeat([]string{"room"}, 2*most)
	l := room[:copy(room, entries(most-1))]
	kept := slices.Clone(room)
	root := Root(l)
	for i := range l {
		proof, _ := Proof(l, i)
		extension, _ := Extension(l, i)
		spare := append(slices.Grow(proof, 9), "room")[:len(proof)]
		before := slices.Clone(spare[:len(spare)+1])
		Verify(root, len(l), i, l[i], spare)
		VerifyExtension(Root(l[:i]), i, root, len(l), spare)
		VerifyExtension(Root(l[:i]), i, root, len(l), extension)
		if !slices.Equal(spare[:len(spare)+1], before) {
			t.Errorf("%d: a proof was changed", i)
		}
	}
	if !slices.Equal(room, kept) {
		t.Error("the list was changed")
	}
}

func TestResultsAreNewMemory(t *testing.T) {
	l := entries(13)
	for i := range l {
		for _, prove := range []func([]string, int) ([]string, api.Errno){Proof, Extension} {
			first, _ := prove(l, i)
			want := slices.Clone(first)
			second, _ := prove(l, i)
			for j := range cap(first) {
				first[:cap(first)][j] = "changed"
			}
			third, _ := prove(l, i)
			if !slices.Equal(second, want) || !slices.Equal(third, want) || !slices.Equal(l, entries(13)) {
				t.Errorf("%d: a result shares memory", i)
			}
		}
	}
}

func FuzzVerify(f *testing.F) {
	f.Add(3, 2, "c", strings.Repeat("p", 32), 32)
	f.Add(4, 3, "d", strings.Repeat("q", 96), 32)
	f.Add(2, 1, "", "", 1)
	f.Add(1, 0, "a", "", 0)
	f.Add(math.MaxInt, math.MaxInt-1, "a", strings.Repeat("r", 32*62), 32)
	f.Fuzz(func(t *testing.T, n, i int, s, bytes string, size int) {
		if size < 1 || len(bytes)/size > 100 {
			return
		}
		var proof []string
		for len(bytes) > 0 {
			k := min(size, len(bytes))
			proof = append(proof, bytes[:k])
			bytes = bytes[k:]
		}
		root, old, full := Sum("root"), Sum("old"), Sum("root")
		if n > 0 && i >= 0 && i < n {
			root, _ = value(n, i, s, proof)
		}
		if n > 0 && i > 0 && i <= n {
			old, full, _ = twoValues(Sum("old"), i, n, proof, true)
		}
		if Verify(root, n, i, s, proof) != shows(root, n, i, s, proof) {
			t.Fatalf("Verify: %d of %d, %x", i, n, proof)
		}
		if VerifyExtension(old, i, full, n, proof) != showsExtension(old, i, full, n, proof) {
			t.Fatalf("VerifyExtension: %d to %d, %x", i, n, proof)
		}
	})
}
