// Package wire is layer 1: it encodes integers and strings as bytes, decodes them, and computes checksums. See shared/doc/01-wire.md.
package wire

import (
	"iter"
	"strings"

	"aircheck/api"
)

// An encoded integer is the groups of 7 bits of a number up to maxFolded, so it has at most maxGroups bytes.
const (
	groupBits = 7
	groupMask = 1<<groupBits - 1
	more      = 1 << groupBits
	maxFolded = 2 * api.MaxInt
	maxGroups = 9
)

// sumTable has, for each value of 4 bits, what they add to the checksum register as they are shifted out: half a byte at a time needs only 16 numbers.
var sumTable = [16]uint32{
	0x00000000, 0x105ec76f, 0x20bd8ede, 0x30e349b1,
	0x417b1dbc, 0x5125dad3, 0x61c69362, 0x7198540d,
	0x82f63b78, 0x92a8fc17, 0xa24bb5a6, 0xb21572c9,
	0xc38d26c4, 0xd3d3e1ab, 0xe330a81a, 0xf36e6f75,
}

// PutInt returns the encoding of n, or ErrWire if n is not from -MaxInt to MaxInt.
func PutInt(n int) (string, api.Errno) {
	if n < -api.MaxInt || n > api.MaxInt {
		return "", api.ErrWire
	}
	out := make([]byte, 0, maxGroups)
	for group, last := range groups(fold(n)) {
		if !last {
			group |= more
		}
		out = append(out, group)
	}
	return string(out), api.OK
}

// Int decodes the integer whose encoding begins at offset at of s, and returns it and the offset of the byte after the encoding.
func Int(s string, at int) (int, int, api.Errno) {
	if at < 0 || at > len(s) {
		return 0, 0, api.ErrArg
	}
	z, size := collect(s[at:])
	if size == 0 || z > maxFolded {
		return 0, 0, api.ErrWire
	}
	return unfold(z), at + size, api.OK
}

// PutString returns the encoding of s, or ErrWire if s has more than MaxString bytes.
func PutString(s string) (string, api.Errno) {
	if len(s) > api.MaxString {
		return "", api.ErrWire
	}
	// No error: MaxString is less than MaxInt.
	length, _ := PutInt(len(s))
	return length + s, api.OK
}

// String decodes the string whose encoding begins at offset at of s, and returns it and the offset of the byte after the encoding.
func String(s string, at int) (string, int, api.Errno) {
	length, from, err := Int(s, at)
	if err != api.OK {
		return "", 0, err
	}
	if length < 0 || length > api.MaxString || length > len(s)-from {
		return "", 0, api.ErrWire
	}
	// A clone, so that a short result does not keep all of s in memory.
	return strings.Clone(s[from : from+length]), from + length, api.OK
}

// Sum returns the CRC-32C checksum of s.
func Sum(s string) int {
	register := ^uint32(0)
	for i := 0; i < len(s); i++ {
		register ^= uint32(s[i])
		register = register>>4 ^ sumTable[register&15]
		register = register>>4 ^ sumTable[register&15]
	}
	return int(^register)
}

// fold maps the integers that have an encoding one to one to the numbers from 0 to maxFolded, so that a small magnitude stays a small number whatever its sign.
func fold(n int) uint64 {
	if n < 0 {
		return 2*uint64(-n) - 1
	}
	return 2 * uint64(n)
}

// unfold is the inverse of fold.
func unfold(z uint64) int {
	half := int(z / 2)
	if z%2 == 1 {
		return -half - 1
	}
	return half
}

// groups yields the groups of 7 bits of z, the least significant one first, each with whether it is the last one.
func groups(z uint64) iter.Seq2[byte, bool] {
	return func(yield func(byte, bool) bool) {
		for rest := z; ; rest >>= groupBits {
			last := rest <= groupMask
			if !yield(byte(rest&groupMask), last) || last {
				return
			}
		}
	}
}

// collect puts together the groups at the beginning of s, and returns the number that they make and how many they are: none if s ends before they do, if the last one is superfluous, or if there are more than any encoding has.
func collect(s string) (uint64, int) {
	z := uint64(0)
	for i := 0; i < len(s) && i < maxGroups; i++ {
		group := s[i] & groupMask
		z |= uint64(group) << (groupBits * i)
		if s[i] < more {
			if group == 0 && i > 0 {
				return 0, 0
			}
			return z, i + 1
		}
	}
	return 0, 0
}
