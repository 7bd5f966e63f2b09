package octet_test

import (
	"bytes"
	"math"
	"testing"

	"fairlead/api"
	"fairlead/octet"
)

var sizes = []int{1, 2, 4, 8}

// notSizes has the neighbours of every size, and numbers whose low-order bits look like a size.
var notSizes = []int{math.MinInt, math.MinInt + 8, -8, -4, -2, -1, 0, 3, 5, 6, 7, 9, 16, 32, 64, 256 + 1, 1<<32 + 4, 1<<62 + 8, math.MaxInt}

// guarded returns the text as a slice with capacity beyond its length, and a check that neither the text nor what lies around it has changed.
func guarded(text string) ([]byte, func(t *testing.T, call string)) {
	const edge = "0123456789abcdef"
	whole := []byte(edge + text + edge)
	b := whole[len(edge) : len(edge)+len(text)]
	return b, func(t *testing.T, call string) {
		t.Helper()
		if string(whole) != edge+text+edge {
			t.Errorf("%s: the argument or the memory around it became %q", call, whole)
		}
	}
}

func fill(b []byte, x byte) {
	b = b[:cap(b)]
	for i := range b {
		b[i] = x
	}
}

func TestGet(t *testing.T) {
	b := []byte{0x01, 0x02, 0x03, 0xff, 0xfe, 0x80, 0x00, 0x00, 0x07}
	for _, x := range []struct {
		at, size int
		want     uint64
	}{
		{0, 1, 0x01}, {3, 1, 0xff}, {8, 1, 0x07},
		{1, 2, 515}, {0, 2, 0x0102}, {3, 2, 0xfffe}, {6, 2, 0}, {7, 2, 0x0007},
		{0, 4, 0x010203ff}, {3, 4, 0xfffe8000}, {5, 4, 0x80000007},
		{0, 8, 0x010203fffe800000}, {1, 8, 0x0203fffe80000007},
	} {
		if got, e := octet.Get(b, x.at, x.size); got != x.want || e != api.OK {
			t.Errorf("P1.1: Get at %d, size %d: %#x, %d; want %#x", x.at, x.size, got, e, x.want)
		}
	}
	all := []byte{0xff, 0xff, 0xff, 0xff, 0xff, 0xff, 0xff, 0xff}
	if got, e := octet.Get(all, 0, 8); got != math.MaxUint64 || e != api.OK {
		t.Errorf("P1.1: Get of the greatest number: %#x, %d", got, e)
	}
}

func TestGetOfNoSize(t *testing.T) {
	b := make([]byte, 300)
	fill(b, 1)
	for _, size := range notSizes {
		for _, at := range []int{0, 1, 8} {
			if got, e := octet.Get(b, at, size); got != 0 || e != api.ErrArg {
				t.Errorf("P1.1: Get at %d, size %d: %d, %d; want 0, ErrArg", at, size, got, e)
			}
		}
	}
}

func TestGetOutside(t *testing.T) {
	for length := range 12 {
		b := make([]byte, length, 32)
		fill(b, 1)
		for _, size := range sizes {
			at := length - size
			if at >= 0 {
				if _, e := octet.Get(b, at, size); e != api.OK {
					t.Errorf("P1.1: Get of the last %d of %d bytes: %d", size, length, e)
				}
			}
			for _, at := range []int{at + 1, length, length + 1, -1, -size, math.MinInt, math.MaxInt, math.MaxInt - size, math.MaxInt - size + 1} {
				if at >= 0 && at <= length-size {
					continue
				}
				if got, e := octet.Get(b, at, size); got != 0 || e != api.ErrArg {
					t.Errorf("P1.1: Get of %d bytes at %d, size %d: %d, %d; want 0, ErrArg", length, at, size, got, e)
				}
			}
		}
	}
	if got, e := octet.Get(nil, 0, 1); got != 0 || e != api.ErrArg {
		t.Errorf("P1.1: Get of nil: %d, %d; want 0, ErrArg", got, e)
	}
}

func TestPut(t *testing.T) {
	for _, x := range []struct {
		b    string
		x    uint64
		size int
		want string
	}{
		{"\xff", 258, 2, "\xff\x01\x02"},
		{"", 0, 1, "\x00"},
		{"ab", 0xff, 1, "ab\xff"},
		{"", 0x01020304, 4, "\x01\x02\x03\x04"},
		{"a", 258, 8, "a\x00\x00\x00\x00\x00\x00\x01\x02"},
		{"", 0x0102030405060708, 8, "\x01\x02\x03\x04\x05\x06\x07\x08"},
		{"", math.MaxUint64, 8, "\xff\xff\xff\xff\xff\xff\xff\xff"},
		// A number that needs more bytes: its low-order ones.
		{"\xff", 258, 1, "\xff\x02"},
		{"", 0x0102030405060708, 1, "\x08"},
		{"", 0x0102030405060708, 2, "\x07\x08"},
		{"", 0x0102030405060708, 4, "\x05\x06\x07\x08"},
	} {
		b, unchanged := guarded(x.b)
		if got := octet.Put(b, x.x, x.size); string(got) != x.want {
			t.Errorf("P1.2: Put of %q, %#x, size %d: %q; want %q", x.b, x.x, x.size, got, x.want)
		}
		unchanged(t, "Put")
	}
	if got := octet.Put(nil, 7, 2); string(got) != "\x00\x07" {
		t.Errorf("P1.2: Put of nil: %q", got)
	}
}

func TestPutOfNoSize(t *testing.T) {
	for _, size := range notSizes {
		for _, text := range []string{"", "\xff", "abcd"} {
			b, unchanged := guarded(text)
			if got := octet.Put(b, 258, size); string(got) != text {
				t.Errorf("P1.2: Put of %q, size %d: %q", text, size, got)
			}
			unchanged(t, "Put")
		}
		if got := octet.Put(nil, 258, size); len(got) != 0 {
			t.Errorf("P1.2: Put of nil, size %d: %q", size, got)
		}
	}
}

// numbers has, for each size, the least and the greatest numbers and those next to them.
func numbers() []uint64 {
	l := []uint64{0, 1, 2, 127, 128, 258}
	for _, size := range sizes {
		most := uint64(math.MaxUint64) >> (64 - 8*size)
		l = append(l, most-1, most, most+1, most/2, most/2+1)
	}
	return l
}

func fits(x uint64, size int) bool { return x <= uint64(math.MaxUint64)>>(64-8*size) }

func TestGetReturnsWhatPutWrote(t *testing.T) {
	for _, size := range sizes {
		for _, x := range numbers() {
			b := append(octet.Put([]byte("abc"), x, size), "behind"...)
			want := x & (math.MaxUint64 >> (64 - 8*size))
			if got, e := octet.Get(b, 3, size); got != want || e != api.OK {
				t.Errorf("consequence: Get of Put of %#x, size %d: %#x, %d", x, size, got, e)
			}
		}
	}
}

func TestEncodingsHaveTheOrderOfTheirNumbers(t *testing.T) {
	for _, size := range sizes {
		for _, x := range numbers() {
			for _, y := range numbers() {
				if !fits(x, size) || !fits(y, size) {
					continue
				}
				want := 0
				if x < y {
					want = -1
				} else if x > y {
					want = 1
				}
				if got := bytes.Compare(octet.Put(nil, x, size), octet.Put(nil, y, size)); got != want {
					t.Errorf("consequence: the encodings of %#x and %#x in size %d compare as %d", x, y, size, got)
				}
			}
		}
	}
}

func TestCut(t *testing.T) {
	const text = "\x01\x02\x03"
	for at := range len(text) + 1 {
		for n := range len(text) + 1 - at {
			b, unchanged := guarded(text)
			if got, ok := octet.Cut(b, at, n); string(got) != text[at:at+n] || !ok {
				t.Errorf("P1.3: Cut at %d, %d bytes: %q, %v", at, n, got, ok)
			}
			unchanged(t, "Cut")
		}
	}
	if got, ok := octet.Cut(nil, 0, 0); len(got) != 0 || !ok {
		t.Errorf("P1.3: Cut of nil: %q, %v", got, ok)
	}
}

func TestCutOutside(t *testing.T) {
	b := make([]byte, 3, 32)
	for _, x := range []struct{ at, n int }{
		{2, 2}, {3, 1}, {0, 4}, {4, 0}, {4, -1}, {5, -3},
		{-1, 1}, {-1, 0}, {-1, 2}, {-3, 3}, {1, -1}, {0, -1}, {3, -3},
		{math.MaxInt, 0}, {math.MaxInt, 1}, {math.MaxInt, math.MaxInt}, {0, math.MaxInt}, {1, math.MaxInt}, {3, math.MaxInt}, {math.MaxInt - 2, 3},
		{math.MinInt, 0}, {math.MinInt, 1}, {math.MinInt, math.MinInt}, {0, math.MinInt}, {3, math.MinInt}, {math.MinInt, math.MaxInt}, {math.MaxInt, math.MinInt},
	} {
		if got, ok := octet.Cut(b, x.at, x.n); got != nil || ok {
			t.Errorf("P1.3: Cut at %d, %d bytes: %q, %v; want nil, false", x.at, x.n, got, ok)
		}
	}
	if got, ok := octet.Cut(nil, 0, 1); got != nil || ok {
		t.Errorf("P1.3: Cut of one byte of nil: %q, %v; want nil, false", got, ok)
	}
}

func TestRound(t *testing.T) {
	for _, x := range []struct{ n, want int }{
		{0, 0}, {1, 4}, {2, 4}, {3, 4}, {4, 4}, {5, 8}, {8, 8}, {65531, 65532}, {1<<32 - 1, 1 << 32}, {1<<32 + 1, 1<<32 + 4},
		{1<<62 - 4, 1<<62 - 4}, {1<<62 - 3, 1 << 62}, {1<<62 - 1, 1 << 62}, {1 << 62, 1 << 62},
		{1<<62 + 1, 0}, {1<<62 + 4, 0}, {math.MaxInt - 3, 0}, {math.MaxInt, 0},
		{-1, 0}, {-3, 0}, {-4, 0}, {-5, 0}, {math.MinInt, 0},
	} {
		if got := octet.Round(x.n); got != x.want {
			t.Errorf("P1.4: Round(%d): %d; want %d", x.n, got, x.want)
		}
	}
	for n := range 1000 {
		if got := octet.Round(n); got%4 != 0 || got < n || got > n+3 {
			t.Errorf("P1.4: Round(%d): %d", n, got)
		}
	}
}

func TestPad(t *testing.T) {
	for _, x := range []struct{ b, want string }{
		{"", ""},
		{"\x01", "\x01\x00\x00\x00"},
		{"\x01\x02", "\x01\x02\x00\x00"},
		{"\x01\x02\x03", "\x01\x02\x03\x00"},
		{"\x01\x02\x03\x04", "\x01\x02\x03\x04"},
		{"\x01\x02\x03\x04\x05", "\x01\x02\x03\x04\x05\x00\x00\x00"},
		{"\x00", "\x00\x00\x00\x00"},
	} {
		b, unchanged := guarded(x.b)
		if got := octet.Pad(b); string(got) != x.want {
			t.Errorf("P1.4: Pad of %q: %q; want %q", x.b, got, x.want)
		}
		unchanged(t, "Pad")
	}
	if got := octet.Pad(nil); len(got) != 0 {
		t.Errorf("P1.4: Pad of nil: %q", got)
	}
}

func TestPaddedBytesNeedNoPadding(t *testing.T) {
	for length := range 100 {
		b := make([]byte, length, length+8)
		fill(b, 0xee)
		once := octet.Pad(b)
		if len(once) != octet.Round(length) || !bytes.Equal(once[:length], b) || !bytes.Equal(once[length:], make([]byte, len(once)-length)) {
			t.Errorf("P1.4: Pad of %d bytes: %q", length, once)
		}
		if twice := octet.Pad(once); !bytes.Equal(twice, once) {
			t.Errorf("consequence: Pad of padded %d bytes: %q", length, twice)
		}
	}
}

// slicing has the calls that return bytes, with arguments for which the result has at least one byte.
var slicing = map[string]func(b []byte) []byte{
	"Put":            func(b []byte) []byte { return octet.Put(b, 7, 2) },
	"Put of no size": func(b []byte) []byte { return octet.Put(b, 7, 3) },
	"Cut":            func(b []byte) []byte { l, _ := octet.Cut(b, 1, 3); return l },
	"Cut of all":     func(b []byte) []byte { l, _ := octet.Cut(b, 0, len(b)); return l },
	"Pad":            octet.Pad,
}

// A result in memory of its own is not touched by writing to the argument, nor the argument by writing to the result, up to the capacities of both.
func TestResultsAreNewMemory(t *testing.T) {
	for name, call := range slicing {
		for _, text := range []string{"abcd", "abcde"} {
			b, unchanged := guarded(text)
			first, second := call(b), call(b)
			want := string(first)
			fill(second, 'x')
			unchanged(t, name)
			if string(first) != want {
				t.Errorf("R3: %s: two results share memory", name)
			}
			fill(b, 'y')
			if string(first) != want {
				t.Errorf("R3: %s: the result changed with the argument", name)
			}
		}
	}
}

// A call that kept what an earlier one was passed or returned would answer otherwise after those were changed.
func TestNothingIsRetained(t *testing.T) {
	for name, call := range slicing {
		b := []byte("abcde")
		want := string(call(b))
		fill(call(b), 'x')
		fill(b, 'y')
		if got := string(call([]byte("abcde"))); got != want {
			t.Errorf("R3, R5: %s: %q, and at first %q", name, got, want)
		}
	}
}

func TestGetChangesNothing(t *testing.T) {
	b, unchanged := guarded("\x01\x02\x03\x04\x05\x06\x07\x08")
	for _, size := range append(sizes, notSizes...) {
		for _, at := range []int{-1, 0, 1, 4, 7, 8, math.MaxInt} {
			octet.Get(b, at, size)
		}
	}
	unchanged(t, "Get")
}
