package serial_test

import (
	"math"
	"math/rand"
	"testing"

	"fairlead/serial"
)

// Types of one's own are numbers, too.
type (
	ssn uint16
	tsn uint32
)

// turn returns how many numbers T has: twice the half.
func turn[T serial.Number]() int64 { return int64(^T(0)) + 1 }

// ahead is what P3.1 says, without relying on numbers that wrap around.
func ahead[T serial.Number](a, b T) int64 {
	return (int64(b) - int64(a) + turn[T]()) % turn[T]()
}

func less[T serial.Number](a, b T) bool {
	d := ahead(a, b)
	return d >= 1 && d <= turn[T]()/2-1
}

// edges has the distances at which an answer may change, and those next to them.
func edges[T serial.Number]() []T {
	half := T(turn[T]() / 2)
	return []T{0, 1, 2, 3, half/2 - 1, half / 2, half/2 + 1, half - 2, half - 1, half, half + 1, half + 2, ^T(0) - 2, ^T(0) - 1, ^T(0)}
}

// some returns the edges and numbers between them.
func some[T serial.Number](n int, seed int64) []T {
	r := rand.New(rand.NewSource(seed))
	l := edges[T]()
	for range n {
		l = append(l, T(r.Uint32()))
	}
	return l
}

// widths has the edges of both sizes, and widths that would be others if they were cut to the size of a number or taken without their sign.
func widths() []int {
	l := []int{math.MinInt, math.MinInt + 1, -1 << 32, -1<<32 + 1, -1 << 31, -1 << 16, -1<<16 + 1, -1 << 15, -2, -1, 0, 1, 2, 3, 4095, 4096, 4097, math.MaxInt - 1, math.MaxInt}
	for _, size := range []int{15, 16, 31, 32, 33, 48, 62} {
		x := 1 << size
		l = append(l, x-2, x-1, x, x+1, x+2)
	}
	return l
}

// pair checks the three functions of two numbers, and ends the test if one fails: a fault would fail for millions.
func pair[T serial.Number](t *testing.T, a, b T) {
	t.Helper()
	if got, want := serial.Ahead(a, b), ahead(a, b); int64(got) != want {
		t.Errorf("P3.1: Ahead(%d, %d): %d, not %d", a, b, got, want)
	}
	want := less(a, b)
	if got := serial.Less(a, b); got != want {
		t.Errorf("P3.2: Less(%d, %d): %v", a, b, got)
	}
	later := a
	if want {
		later = b
	}
	if got := serial.Max(a, b); got != later {
		t.Errorf("P3.3: Max(%d, %d): %d, not %d", a, b, got, later)
	}
	if t.Failed() {
		t.FailNow()
	}
}

func within[T serial.Number](t *testing.T, x, base T, width int) {
	t.Helper()
	d := ahead(base, x)
	if got, want := serial.In(x, base, width), d >= 1 && d <= int64(width); got != want {
		t.Fatalf("P3.4: In(%d, %d, %d): %v", x, base, width, got)
	}
}

func TestExamples(t *testing.T) {
	for _, x := range []struct {
		what string
		ok   bool
	}{
		{"Less(4294967295, 0)", serial.Less(uint32(4294967295), 0)},
		{"Less(0, 2147483647)", serial.Less(uint32(0), 2147483647)},
		{"not Less(0, 2147483648)", !serial.Less(uint32(0), 2147483648)},
		{"not Less(2147483648, 0)", !serial.Less(uint32(2147483648), 0)},
		{"Max(4294967295, 0)", serial.Max(uint32(4294967295), 0) == 0},
		{"Ahead(4294967290, 4)", serial.Ahead(uint32(4294967290), 4) == 10},
		{"In(0, 4294967295, 1)", serial.In(uint32(0), 4294967295, 1)},
		{"not In(5, 5, 9)", !serial.In(uint32(5), 5, 9)},
		{"not In(4, 5, 4294967294)", !serial.In(uint32(4), 5, 4294967294)},
		{"Less(65535, 0)", serial.Less(uint16(65535), 0)},
		{"Ahead(65530, 4)", serial.Ahead(uint16(65530), 4) == 10},
	} {
		if !x.ok {
			t.Errorf("chapter 3's example: %s does not hold", x.what)
		}
	}
}

// More known answers, written out, so that no rule of the tests stands between them and the document.
func TestKnownAnswers(t *testing.T) {
	for _, x := range []struct {
		a, b, ahead uint32
		less        bool
		max         uint32
	}{
		{0, 0, 0, false, 0},
		{0, 1, 1, true, 1},
		{1, 0, 4294967295, false, 1},
		{4294967295, 4294967295, 0, false, 4294967295},
		{4294967295, 2147483646, 2147483647, true, 2147483646},
		{4294967295, 2147483647, 2147483648, false, 4294967295},
		{2147483647, 4294967295, 2147483648, false, 2147483647},
		{2147483647, 2147483648, 1, true, 2147483648},
		{0, 2147483649, 2147483649, false, 0},
		{2147483649, 0, 2147483647, true, 0},
		{65535, 65536, 1, true, 65536},
		{65535, 0, 4294901761, false, 65535},
		{0, 32768, 32768, true, 32768},
	} {
		if ahead, less, max := serial.Ahead(x.a, x.b), serial.Less(x.a, x.b), serial.Max(x.a, x.b); ahead != x.ahead || less != x.less || max != x.max {
			t.Errorf("P3.1 to P3.3: %d and %d of 32 bits: %d, %v, %d", x.a, x.b, ahead, less, max)
		}
	}
	for _, x := range []struct {
		a, b, ahead uint16
		less        bool
		max         uint16
	}{
		{0, 32767, 32767, true, 32767},
		{0, 32768, 32768, false, 0},
		{32768, 0, 32768, false, 32768},
		{0, 32769, 32769, false, 0},
		{32769, 0, 32767, true, 0},
		{65535, 32766, 32767, true, 32766},
		{65535, 32767, 32768, false, 65535},
		{1, 0, 65535, false, 1},
		{7, 7, 0, false, 7},
	} {
		if ahead, less, max := serial.Ahead(x.a, x.b), serial.Less(x.a, x.b), serial.Max(x.a, x.b); ahead != x.ahead || less != x.less || max != x.max {
			t.Errorf("P3.1 to P3.3: %d and %d of 16 bits: %d, %v, %d", x.a, x.b, ahead, less, max)
		}
	}
}

func TestEveryDistanceOf16Bits(t *testing.T) {
	for _, a := range edges[uint16]() {
		for d := range 1 << 16 {
			pair(t, a, a+uint16(d))
			pair(t, ssn(a), ssn(a)+ssn(d))
		}
	}
}

func TestEveryStartOf16Bits(t *testing.T) {
	for a := range 1 << 16 {
		for _, d := range edges[uint16]() {
			pair(t, uint16(a), uint16(a)+d)
		}
	}
}

func TestPairsOf32Bits(t *testing.T) {
	for _, a := range some[uint32](300, 1) {
		for _, d := range some[uint32](300, 2) {
			pair(t, a, a+d)
			pair(t, tsn(a), tsn(a+d))
		}
	}
}

func checkIn[T serial.Number](t *testing.T) {
	for _, base := range some[T](20, 3) {
		for _, width := range widths() {
			for _, d := range some[T](20, 4) {
				within(t, base+d, base, width)
			}
			for _, d := range []int64{int64(width) - 1, int64(width), int64(width) + 1} {
				within(t, base+T(d), base, width)
			}
		}
	}
}

func TestIn(t *testing.T) {
	checkIn[uint16](t)
	checkIn[uint32](t)
	checkIn[ssn](t)
	checkIn[tsn](t)
}

func TestInOfOddWidths(t *testing.T) {
	for _, x := range []struct {
		what string
		ok   bool
	}{
		{"width -1, all numbers beyond by 1", !serial.In(uint32(1), 0, -1) && !serial.In(uint16(1), 0, -1)},
		{"width 0", !serial.In(uint32(1), 0, 0) && !serial.In(uint16(1), 0, 0)},
		{"the least width", !serial.In(uint32(1), 0, math.MinInt) && !serial.In(uint16(65535), 0, math.MinInt)},
		{"the greatest width", serial.In(uint32(4294967295), 0, math.MaxInt) && serial.In(uint16(65535), 0, math.MaxInt)},
		{"the greatest width, at the base", !serial.In(uint32(7), 7, math.MaxInt) && !serial.In(uint16(7), 7, math.MaxInt)},
		{"a width that is 0 in 16 bits", serial.In(uint16(9), 0, 1<<16) && serial.In(uint16(9), 0, 1<<32)},
		{"a width that is 0 in 32 bits", serial.In(uint32(9), 0, 1<<32)},
		{"a width that is 1 in 16 and 32 bits", serial.In(uint16(9), 0, 1<<32+1) && serial.In(uint32(9), 0, 1<<32+1)},
		{"a negative width that is 9 in 16 and 32 bits", !serial.In(uint16(9), 0, -1<<32+9) && !serial.In(uint32(9), 0, -1<<32+9)},
		{"beyond by more than the half", serial.In(uint32(3000000000), 0, 3000000000) && serial.In(uint16(40000), 0, 40000)},
		{"beyond by the width and one more", !serial.In(uint32(3000000001), 0, 3000000000) && !serial.In(uint16(40001), 0, 40000)},
	} {
		if !x.ok {
			t.Errorf("P3.4: %s does not hold", x.what)
		}
	}
}

func checkOneIsLess[T serial.Number](t *testing.T) {
	half := T(turn[T]() / 2)
	for _, a := range some[T](100, 5) {
		for _, d := range some[T](100, 6) {
			b := a + d
			one, other := serial.Less(a, b), serial.Less(b, a)
			if want := d != 0 && d != half; (one != other) != want || one && other {
				t.Fatalf("consequence: Less of %d and %d: %v, and the other way %v", a, b, one, other)
			}
			if same := serial.Max(a, b) == serial.Max(b, a); same == (d == half) {
				t.Fatalf("consequence: Max of %d and %d, both ways: the same: %v", a, b, same)
			}
		}
	}
}

func TestOneOfTwoIsLess(t *testing.T) {
	checkOneIsLess[uint16](t)
	checkOneIsLess[uint32](t)
}

func checkShift[T serial.Number](t *testing.T) {
	for _, a := range some[T](10, 7) {
		for _, b := range some[T](10, 8) {
			for _, k := range some[T](10, 9) {
				if serial.Ahead(a+k, b+k) != serial.Ahead(a, b) || serial.Less(a+k, b+k) != serial.Less(a, b) || serial.Max(a+k, b+k) != serial.Max(a, b)+k {
					t.Fatalf("consequence: %d and %d, with %d added to both, compare otherwise", a, b, k)
				}
				width := int(serial.Ahead(a, b))
				if serial.In(b+k, a+k, width) != serial.In(b, a, width) || serial.In(b+k, a+k, width-1) != serial.In(b, a, width-1) {
					t.Fatalf("consequence: In of %d and %d, with %d added to both, is another", b, a, k)
				}
			}
		}
	}
}

func TestAddingTheSameToBothChangesNothing(t *testing.T) {
	checkShift[uint16](t)
	checkShift[uint32](t)
}

func checkSums[T serial.Number](t *testing.T) {
	for _, a := range some[T](20, 10) {
		for _, b := range some[T](20, 11) {
			for _, c := range some[T](20, 12) {
				if serial.Ahead(a, b)+serial.Ahead(b, c) != serial.Ahead(a, c) {
					t.Fatalf("consequence: the distances of %d, %d and %d do not add up", a, b, c)
				}
				if int64(serial.Ahead(a, b))+int64(serial.Ahead(b, c)) >= turn[T]()/2 {
					continue
				}
				if serial.Less(a, b) && serial.Less(b, c) && !serial.Less(a, c) {
					t.Fatalf("consequence: Less is not transitive on %d, %d and %d", a, b, c)
				}
			}
		}
	}
}

func TestDistancesAddUp(t *testing.T) {
	checkSums[uint16](t)
	checkSums[uint32](t)
}

// A call that kept something of an earlier one would answer otherwise after others.
func TestSameCallSameAnswer(t *testing.T) {
	first := serial.Max(uint32(4294967295), 0)
	for _, x := range edges[uint32]() {
		serial.Max(x, x+1)
		serial.Less(x+1, x)
		serial.In(x, 0, math.MaxInt)
	}
	if again := serial.Max(uint32(4294967295), 0); again != first {
		t.Errorf("R5: Max again: %d, not %d", again, first)
	}
}
