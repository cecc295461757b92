package digest

import (
	"iter"
	"math/bits"
	"slices"

	"aircheck/api"
)

// fork is a part of a list, seen on the way from the whole list down to one of its entries: the entries from from on, up to but not including to, with the second half beginning at middle.
type fork struct {
	from, middle, to int
	// second says that the way goes on in the second half.
	second bool
}

// Root returns the root of l.
func Root(l []string) string {
	switch len(l) {
	case 0:
		return Sum("")
	case 1:
		return Leaf(l[0])
	}
	k := half(len(l))
	return Node(Root(l[:k]), Root(l[k:]))
}

// Proof returns the proof of the entry with the index i in l, or ErrArg if there is no such entry.
func Proof(l []string, i int) ([]string, api.Errno) {
	if i < 0 || i >= len(l) {
		return nil, api.ErrArg
	}
	var proof []string
	for f := range forks(len(l), i) {
		proof = append(proof, Root(f.other(l)))
	}
	slices.Reverse(proof)
	return proof, api.OK
}

// Verify reports whether the proof shows that s is the entry with the index i of a list with n entries and the given root.
func Verify(root string, n int, i int, s string, proof []string) bool {
	if i < 0 || i >= n || !areDigests(proof...) {
		return false
	}
	way := slices.Collect(forks(n, i))
	if len(way) != len(proof) {
		return false
	}
	slices.Reverse(way)
	value := Leaf(s)
	for step, f := range way {
		value = f.join(value, proof[step])
	}
	return value == root
}

// Extension returns a proof that l begins with its first m entries, or ErrArg if m is not from 0 to the number of entries.
func Extension(l []string, m int) ([]string, api.Errno) {
	if m < 0 || m > len(l) {
		return nil, api.ErrArg
	}
	if m == 0 {
		return nil, api.OK
	}
	way, from := wayToEnd(len(l), m)
	var proof []string
	// A part from the beginning on is the whole old list, whose root is known.
	if from > 0 {
		proof = append(proof, Root(l[from:m]))
	}
	for _, f := range way {
		proof = append(proof, Root(f.other(l)))
	}
	return proof, api.OK
}

// VerifyExtension reports whether the proof shows that a list with n entries and the given root begins with m entries whose root is old.
func VerifyExtension(old string, m int, root string, n int, proof []string) bool {
	// Without this, bytes could move from a digest to the one behind it: a node does not tell where the first one ends.
	if m < 0 || m > n || !areDigests(old, root) || !areDigests(proof...) {
		return false
	}
	if m == 0 {
		return len(proof) == 0 && old == Root(nil)
	}
	way, from := wayToEnd(n, m)
	before, rest := old, proof
	if from > 0 {
		if len(proof) == 0 {
			return false
		}
		before, rest = proof[0], proof[1:]
	}
	if len(rest) != len(way) {
		return false
	}
	after := before
	for step, f := range way {
		after = f.join(after, rest[step])
		// A second half that the old list does not reach belongs to the new list only.
		if f.second {
			before = f.join(before, rest[step])
		}
	}
	return before == old && after == root
}

// half returns the number of entries of the first half of a list with n entries, which are at least two: the greatest power of two that is less than n.
func half(n int) int {
	return 1 << (bits.Len(uint(n-1)) - 1)
}

// forks yields the parts on the way from a list of n entries down to the one with the index i, the whole list first, without the entry itself.
func forks(n, i int) iter.Seq[fork] {
	return func(yield func(fork) bool) {
		from, to := 0, n
		for to-from > 1 {
			middle := from + half(to-from)
			f := fork{from, middle, to, i >= middle}
			if !yield(f) {
				return
			}
			if f.second {
				from = middle
			} else {
				to = middle
			}
		}
	}
}

// wayToEnd returns the parts on the way from a list of n entries down to the first part that ends where the first m of them end, the smallest one first, and where that part begins. m is at least 1.
func wayToEnd(n, m int) ([]fork, int) {
	var way []fork
	from := 0
down:
	for f := range forks(n, m-1) {
		switch {
		case f.to == m:
			break down
		case f.second:
			from = f.middle
		}
		way = append(way, f)
	}
	slices.Reverse(way)
	return way, from
}

// other returns the entries of l in the half to which the way does not go.
func (f fork) other(l []string) []string {
	if f.second {
		return l[f.from:f.middle]
	}
	return l[f.middle:f.to]
}

// join returns the root of the part from that of the half to which the way goes, and that of the other one.
func (f fork) join(here, other string) string {
	if f.second {
		return Node(other, here)
	}
	return Node(here, other)
}

// areDigests reports whether all strings are digests.
func areDigests(l ...string) bool {
	return !slices.ContainsFunc(l, func(s string) bool { return len(s) != api.DigestSize })
}
