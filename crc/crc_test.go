package crc_test

import (
	"bytes"
	"hash/crc32"
	"math/rand"
	"testing"

	"fairlead/crc"
)

var castagnoli = crc32.MakeTable(crc32.Castagnoli)

// sums are registers of every kind: both ends, single bits, and the start value of the register.
var sums = []uint32{0, 1, 2, 0x7fffffff, 0x80000000, 0xffffffff, 0xfffffffe, 0x82f63b78, 0x48674bc7, 0x12345678}

func someBytes(n int, seed int64) []byte {
	b := make([]byte, n)
	rand.New(rand.NewSource(seed)).Read(b)
	return b
}

// little returns the four bytes of x, least significant byte first.
func little(x uint32) []byte {
	return []byte{byte(x), byte(x >> 8), byte(x >> 16), byte(x >> 24)}
}

func join(parts ...[]byte) []byte {
	return bytes.Join(parts, nil)
}

func TestKnownSums(t *testing.T) {
	count := func(first, by int) []byte {
		b := make([]byte, 32)
		for i := range b {
			b[i] = byte(first + by*i)
		}
		return b
	}
	for _, x := range []struct {
		b    []byte
		want uint32
	}{
		{nil, 0},
		{[]byte{}, 0},
		{[]byte("a"), 0xc1d04330},
		{[]byte("123456789"), 0xe3069283},
		{[]byte{0}, 0x527d5351},
		{[]byte{0xff}, 0xff000000},
		{[]byte{0xff, 0xff, 0xff, 0xff}, 0xffffffff},
		{count(0, 0), 0x8a9136aa},
		{count(0xff, 0), 0x62a8ab43},
		{count(0, 1), 0x46dd794e},
		{count(31, -1), 0x113fdb5c},
	} {
		if got := crc.Sum(x.b); got != x.want {
			t.Errorf("P2.1: Sum of %x: %08x, not %08x", x.b, got, x.want)
		}
	}
	if got := crc.Extend(crc.Sum([]byte("1234")), []byte("56789")); got != 0xe3069283 {
		t.Errorf("P2.1: Extend(Sum of 1234, 56789): %08x", got)
	}
}

func TestExtendOfNothing(t *testing.T) {
	for _, sum := range sums {
		if a, b := crc.Extend(sum, nil), crc.Extend(sum, []byte{}); a != sum || b != sum {
			t.Errorf("P2.1: %08x extended by no bytes: %08x and %08x", sum, a, b)
		}
	}
}

// bitByBit does what P2.1 says with a register of 32 bools, [0] its lowest bit.
func bitByBit(sum uint32, b []byte) uint32 {
	var register, mask [32]bool
	for i := range register {
		register[i] = sum>>i&1 == 0
		mask[i] = uint32(0x82f63b78)>>i&1 == 1
	}
	for k := range 8 * len(b) {
		differs := register[0] != (b[k/8]>>(k%8)&1 == 1)
		copy(register[:], register[1:])
		register[31] = false
		for i := range register {
			register[i] = register[i] != (differs && mask[i])
		}
	}
	out := uint32(0)
	for i, bit := range register {
		if !bit {
			out |= 1 << i
		}
	}
	return out
}

func TestExtendOfEverySum(t *testing.T) {
	for n := range 70 {
		b := someBytes(n, int64(n))
		for _, sum := range append(sums, rand.New(rand.NewSource(int64(n))).Uint32()) {
			want := bitByBit(sum, b)
			if got := crc.Extend(sum, b); got != want || want != crc32.Update(sum, castagnoli, b) {
				t.Errorf("P2.1: Extend(%08x, %x): %08x, not %08x", sum, b, got, want)
			}
		}
	}
	for x := range 256 {
		b := []byte{byte(x)}
		for _, sum := range sums {
			if got, want := crc.Extend(sum, b), bitByBit(sum, b); got != want {
				t.Errorf("P2.1: Extend(%08x, %x): %08x, not %08x", sum, b, got, want)
			}
		}
	}
}

func TestSumOfManyBytes(t *testing.T) {
	b := someBytes(1<<20+3, 7)
	if got, want := crc.Sum(b), crc32.Checksum(b, castagnoli); got != want {
		t.Errorf("P2.1: Sum of %d bytes: %08x, not %08x", len(b), got, want)
	}
}

func TestConcatenation(t *testing.T) {
	b := someBytes(100, 1)
	for i := range len(b) + 1 {
		if got, want := crc.Extend(crc.Sum(b[:i]), b[i:]), crc.Sum(b); got != want {
			t.Errorf("P2.1: %d bytes extended by the others: %08x, not %08x", i, got, want)
		}
	}
}

// TestOneSumForEachChecksum finds the sum bit by bit: what an extension changes depends on the sum linearly, so a sum exists for every checksum exactly if the 32 changes are independent.
func TestOneSumForEachChecksum(t *testing.T) {
	for n := range 12 {
		b := someBytes(n, int64(n))
		start := crc.Extend(0, b)
		var basis [32]uint32
		rank := 0
		for i := range 32 {
			x := crc.Extend(1<<i, b) ^ start
			for k := 31; k >= 0 && x != 0; k-- {
				if x>>k&1 == 0 {
					continue
				}
				if basis[k] == 0 {
					basis[k], x = x, 0
					rank++
				} else {
					x ^= basis[k]
				}
			}
		}
		if rank != 32 {
			t.Errorf("P2.1: extending by %x maps the sums to 2^%d checksums", b, rank)
		}
	}
}

// remainder divides as the chapter's consequence says, and returns the remainder as the checksum that it makes.
func remainder(b []byte) uint32 {
	bits := make([]byte, 8*len(b)+32)
	for i := range 8 * len(b) {
		bits[i] = b[i/8] >> (i % 8) & 1
	}
	for i := range 32 {
		bits[i] ^= 1
	}
	const divisor = uint64(0x11edc6f41)
	for i := range 8 * len(b) {
		if bits[i] == 0 {
			continue
		}
		for k := range 33 {
			bits[i+k] ^= byte(divisor >> (32 - k) & 1)
		}
	}
	sum := uint32(0)
	for i, bit := range bits[8*len(b):] {
		sum |= uint32(bit^1) << i
	}
	return sum
}

func TestRemainder(t *testing.T) {
	for n := range 40 {
		b := someBytes(n, int64(n))
		if got, want := crc.Sum(b), remainder(b); got != want {
			t.Errorf("P2.1: Sum of %x: %08x, but the remainder of the division is %08x", b, got, want)
		}
	}
}

func TestBursts(t *testing.T) {
	r := rand.New(rand.NewSource(3))
	b := someBytes(24, 3)
	want := crc.Sum(b)
	for at := range 8 * len(b) {
		width := min(32, 8*len(b)-at)
		patterns := []uint64{1, 1<<width - 1, 1 | 1<<(width-1)}
		for range 50 {
			patterns = append(patterns, r.Uint64()&(1<<width-1)|1)
		}
		for _, p := range patterns {
			other := bytes.Clone(b)
			for i := range width {
				other[(at+i)/8] ^= byte(p>>i&1) << ((at + i) % 8)
			}
			if crc.Sum(other) == want {
				t.Fatalf("P2.1: the burst %x at bit %d is not seen", p, at)
			}
		}
	}
}

func TestDifferences(t *testing.T) {
	for n := range 20 {
		b, c := someBytes(n, int64(n)), someBytes(n, int64(n+100))
		for _, x := range sums {
			for _, y := range sums {
				one := crc.Extend(x, b) ^ crc.Extend(y, b)
				two := crc.Extend(x, c) ^ crc.Extend(y, c)
				if zero := crc.Extend(x^y, make([]byte, n)) ^ crc.Extend(0, make([]byte, n)); one != two || one != zero {
					t.Errorf("P2.1: the difference of %08x and %08x after %d bytes: %08x, %08x, %08x", x, y, n, one, two, zero)
				}
			}
		}
	}
}

func TestSumBehindItsBytes(t *testing.T) {
	for n := range 40 {
		b := someBytes(n, int64(n))
		if got := crc.Sum(join(b, little(crc.Sum(b)))); got != 0x48674bc7 {
			t.Errorf("P2.1: Sum of %x and its checksum: %08x", b, got)
		}
		for _, x := range sums {
			if got, want := crc.Sum(join(b, little(crc.Sum(b)^x))), crc.Sum(little(x)); got != want {
				t.Errorf("P2.1: Sum of %x and its checksum XOR %08x: %08x, not %08x", b, x, got, want)
			}
		}
	}
}

func TestArgumentsStay(t *testing.T) {
	whole := []byte("....123456789....")
	if got := crc.Sum(whole[4:13]); got != 0xe3069283 {
		t.Errorf("R3: Sum reads beyond its argument: %08x", got)
	}
	crc.Extend(5, whole[4:13])
	if string(whole) != "....123456789...." {
		t.Errorf("R3: the argument or the memory around it became %q", whole)
	}
}

func TestSameCallSameSum(t *testing.T) {
	b := someBytes(50, 9)
	first := crc.Sum(b)
	crc.Extend(first, []byte("others"))
	if again := crc.Sum(b); again != first {
		t.Errorf("R5: Sum again: %08x, not %08x", again, first)
	}
}
