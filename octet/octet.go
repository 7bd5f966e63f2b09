// Package octet is layer 1: big-endian integers, parts of byte slices, and padding. See shared/doc/01-octet.md.
package octet

import "fairlead/api"

// longest is the greatest length that Round rounds up; it is a multiple of 4, so that no rounded length overflows.
const longest = 1 << 62

// Get returns the number that the size bytes of b from at on encode. (P1.1)
func Get(b []byte, at, size int) (uint64, api.Errno) {
	if !isSize(size) || !has(b, at, size) {
		return 0, api.ErrArg
	}
	x := uint64(0)
	for i := range size {
		x = x<<8 | uint64(b[at+i])
	}
	return x, api.OK
}

// Put returns b followed by the encoding of x in size bytes; b alone, if size is not a size. (P1.2)
func Put(b []byte, x uint64, size int) []byte {
	if !isSize(size) {
		return extend(b, 0)
	}
	l := extend(b, size)
	for i := range size {
		l[len(l)-1-i] = byte(x >> (8 * i))
	}
	return l
}

// Cut returns the n bytes of b from at on, if b has them. (P1.3)
func Cut(b []byte, at, n int) ([]byte, bool) {
	if !has(b, at, n) {
		return nil, false
	}
	return extend(b[at:at+n], 0), true
}

// Round returns n rounded up to a multiple of 4; 0, if n is not a length that can be rounded. (P1.4)
func Round(n int) int {
	if n < 0 || n > longest {
		return 0
	}
	return (n + 3) / 4 * 4
}

// Pad returns b followed by zero bytes up to its rounded length. (P1.4)
func Pad(b []byte) []byte {
	return extend(b, Round(len(b))-len(b))
}

func isSize(size int) bool {
	return size == 1 || size == 2 || size == 4 || size == 8
}

// has says whether b has n bytes from at on. It subtracts, because the sum of at and n could overflow.
func has(b []byte, at, n int) bool {
	return at >= 0 && n >= 0 && at <= len(b)-n
}

// extend returns b followed by n zero bytes, in memory of its own: appending to b could write into what the caller keeps behind b.
func extend(b []byte, n int) []byte {
	l := make([]byte, len(b)+n)
	copy(l, b)
	return l
}
