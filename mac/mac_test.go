package mac_test

import (
	"bytes"
	"crypto/hmac"
	"crypto/sha256"
	"encoding/hex"
	"math/rand"
	"strings"
	"testing"
	"time"

	"fairlead/mac"
)

func someBytes(n int, seed int64) []byte {
	b := make([]byte, n)
	rand.New(rand.NewSource(seed)).Read(b)
	return b
}

// model does what P7.1 says, with the library's digests.
func model(key, text []byte) [32]byte {
	if len(key) > 64 {
		d := sha256.Sum256(key)
		key = d[:]
	}
	block := bytes.Clone(key)
	for len(block) < 64 {
		block = append(block, 0)
	}
	var inner, outer []byte
	for _, x := range block {
		inner = append(inner, x^0x36)
		outer = append(outer, x^0x5c)
	}
	d := sha256.Sum256(append(inner, text...))
	return sha256.Sum256(append(outer, d[:]...))
}

// check compares a sum with the model's and with the library's, and ends the test if one differs.
func check(t *testing.T, key, text []byte) {
	t.Helper()
	got := mac.Sum(key, text)
	if want := model(key, text); got != want {
		t.Fatalf("P7.1: a key of %d bytes, a text of %d: %x, not %x", len(key), len(text), got, want)
	}
	h := hmac.New(sha256.New, key)
	h.Write(text)
	if want := h.Sum(nil); !bytes.Equal(got[:], want) {
		t.Fatalf("P7.1: a key of %d bytes, a text of %d: %x, not the library's %x", len(key), len(text), got, want)
	}
}

// Known answers, written out, so that no rule of the tests stands between them and the document.
func TestKnownSums(t *testing.T) {
	counting := "\x01\x02\x03\x04\x05\x06\x07\x08\x09\x0a\x0b\x0c\x0d\x0e\x0f\x10\x11\x12\x13\x14\x15\x16\x17\x18\x19"
	for _, x := range []struct{ key, text, want string }{
		{"Jefe", "what do ya want for nothing?", "5bdcc146bf60754e6a042426089575c75a003f089d2739839dec58b964ec3843"},
		{strings.Repeat("\x0b", 20), "Hi There", "b0344c61d8db38535ca8afceaf0bf12b881dc200c9833da726e9376c2e32cff7"},
		{strings.Repeat("\xaa", 20), strings.Repeat("\xdd", 50), "773ea91e36800e46854db8ebd09181a72959098b3ef8c122d9635514ced565fe"},
		{counting, strings.Repeat("\xcd", 50), "82558a389a443c0ea4cc819899f2083a85f0faa3e578f8077a2e3ff46729665b"},
		{strings.Repeat("\x0c", 20), "Test With Truncation", "a3b6167473100ee06e0c796c2955552bfa6f7c0a6a8aef8b93f860aab0cd20c5"},
		{strings.Repeat("\xaa", 131), "Test Using Larger Than Block-Size Key - Hash Key First", "60e431591ee0b67f0d8a26aacbf5b77f8e0bc6213728c5140546040f0ee37f54"},
		{strings.Repeat("\xaa", 131), "This is a test using a larger than block-size key and a larger than block-size data. The key needs to be hashed before being used by the HMAC algorithm.", "9b09ffa71b942fcb27635fbcd5b0e944bfdc63644f0713938a7f51535c3a35e2"},
		{"key", "The quick brown fox jumps over the lazy dog", "f7bc83f430538424b13298e6aa6fb143ef4d59a14946175997479dbc2d1a3cd8"},
		{"", "", "b613679a0814d9ec772f95d778c35fc5ff1697c493715653c6c712144292c5ad"},
		{"", "abc", "fd7adb152c05ef80dccf50a1fa4c05d5a3ec6da95575fc312ae7c5d091836351"},
		{"abc", "", "e2636077506729a8f61aff2441332e40e844a8ad44489efd80210ea6d1f51088"},
		{strings.Repeat("\xff", 63), "abc", "cb39e32dfcf9485689865c3dc495b867648055957b65429fbd25f52cd410f122"},
		{strings.Repeat("\xff", 64), "abc", "eefc268fa0f236d153574de9eb8eed870c899e64f8f9fb11d7c42fb49e90cfcc"},
		{strings.Repeat("\xff", 65), "abc", "8138aee46b581cf7df1fdd90c32c2e5bccaaba715d8df0f4b2f37b97ca908ab6"},
		{strings.Repeat("k", 64), "", "83026a325aaee70e36cfe607536aa1054104ad1077c36134810d4ccded1ccd3b"},
		{strings.Repeat("k", 65), "", "41f1c4cc3107cd5b8d92460f61032902bfdb06484eef17e861b83a5012d3b7f3"},
		{strings.Repeat("k", 32), strings.Repeat("t", 1000000), "b73a44b3338ef19782e59aa673db082a497082c013762af0157d73978825dace"},
	} {
		got := mac.Sum([]byte(x.key), []byte(x.text))
		if text := hex.EncodeToString(got[:]); text != x.want {
			t.Errorf("P7.1: the key %.40q (%d bytes), the text %.40q (%d bytes): %s, not %s", x.key, len(x.key), x.text, len(x.text), text, x.want)
		}
	}
}

// Each length of a key, of which 64 and 65 are the edges, with each of a text, of which 55 and 64 modulo 64 are those of its digest.
func TestEveryLength(t *testing.T) {
	keys, texts := someBytes(200, 71), someBytes(140, 72)
	for n := range len(keys) + 1 {
		for k := range len(texts) + 1 {
			check(t, keys[:n], texts[:k])
		}
	}
}

func TestLongKeysAndTexts(t *testing.T) {
	b := someBytes(1<<20, 73)
	for _, n := range []int{1 << 10, 1<<16 - 1, 1 << 16, 1 << 20} {
		check(t, b[:n], b[:100])
		check(t, b[:20], b[:n])
		check(t, b[:n], b[:n])
	}
}

// Each bit of a key and of a text is at its place.
func TestEveryBit(t *testing.T) {
	for _, n := range []int{1, 32, 63, 64, 65, 130} {
		zeros, ones := make([]byte, n), bytes.Repeat([]byte{0xff}, n)
		for i := range 8 * n {
			zeros[i/8] ^= 1 << (i % 8)
			ones[i/8] ^= 1 << (i % 8)
			check(t, zeros, ones)
			check(t, ones, zeros)
			zeros[i/8] ^= 1 << (i % 8)
			ones[i/8] ^= 1 << (i % 8)
		}
	}
}

// A key of one byte again and again: those that equal a mask make a block of zeros.
func TestEveryByteAsKey(t *testing.T) {
	for x := range 256 {
		for _, n := range []int{1, 63, 64, 65} {
			check(t, bytes.Repeat([]byte{byte(x)}, n), []byte("text"))
		}
	}
}

// Key and text are not exchanged, and what ends the one does not begin the other.
func TestKeyAndTextAreApart(t *testing.T) {
	b := someBytes(60, 74)
	seen := map[[32]byte]int{}
	for n := range len(b) + 1 {
		sum := mac.Sum(b[:n], b[n:])
		if other, ok := seen[sum]; ok {
			t.Errorf("P7.1: keys of the first %d and of the first %d bytes, the rest being the text: one sum", other, n)
		}
		seen[sum] = n
	}
	if mac.Sum([]byte("a"), []byte("b")) == mac.Sum([]byte("b"), []byte("a")) {
		t.Error("P7.1: key and text exchanged: one sum")
	}
}

func TestNilIsEmpty(t *testing.T) {
	b := []byte("abc")
	if mac.Sum(nil, b) != mac.Sum([]byte{}, b) || mac.Sum(b, nil) != mac.Sum(b, []byte{}) || mac.Sum(nil, nil) != mac.Sum([]byte{}, []byte{}) {
		t.Error("R3: Sum: a nil slice is not as an empty one")
	}
	check(t, nil, b)
	check(t, b, nil)
	check(t, nil, nil)
	for _, x := range []struct {
		a, b []byte
		want bool
	}{{nil, nil, true}, {nil, []byte{}, true}, {[]byte{}, nil, true}, {nil, []byte{0}, false}, {[]byte{0}, nil, false}} {
		if got := mac.Same(x.a, x.b); got != x.want {
			t.Errorf("R3: Same of %#v and %#v: %v", x.a, x.b, got)
		}
	}
}

func TestLongKeyIsItsDigest(t *testing.T) {
	b := someBytes(300, 75)
	for n := range len(b) + 1 {
		d := sha256.Sum256(b[:n])
		equal := mac.Sum(b[:n], b[:50]) == mac.Sum(d[:], b[:50])
		if equal != (n > 64) {
			t.Errorf("consequence: a key of %d bytes and its digest: one sum: %v", n, equal)
		}
	}
}

// Zero bytes behind a key are not seen up to 64 bytes in all, and are seen beyond.
func TestZeroBytesBehindKey(t *testing.T) {
	key, text := someBytes(64, 76), []byte("text")
	for n := range len(key) + 1 {
		want := mac.Sum(key[:n], text)
		for k := n; k <= 70; k++ {
			longer := append(bytes.Clone(key[:n]), make([]byte, k-n)...)
			if equal := mac.Sum(longer, text) == want; equal != (k <= 64) {
				t.Errorf("consequence: a key of %d bytes, and with zero bytes up to %d: one sum: %v", n, k, equal)
			}
		}
		if n == 0 {
			continue // a zero byte before no bytes is one behind them
		}
		if before := append([]byte{0}, key[:n]...); mac.Sum(before, text) == want {
			t.Errorf("P7.1: a zero byte before a key of %d bytes is not seen", n)
		}
	}
}

func TestSameOfExamples(t *testing.T) {
	for _, x := range []struct {
		a, b []byte
		want bool
	}{
		{[]byte{1, 2}, []byte{1, 2}, true},
		{[]byte{1, 2}, []byte{1}, false},
		{[]byte{1}, []byte{1, 2}, false},
		{[]byte{1, 2}, []byte{1, 3}, false},
		{[]byte{1, 2}, []byte{2, 1}, false},
		{[]byte{}, []byte{}, true},
		{[]byte{}, []byte{0}, false},
		{[]byte{0, 0}, []byte{0}, false},
		{[]byte{0x11, 2}, []byte{1, 0x12}, false}, // the sums of the bytes, and of their differences, agree
		{[]byte{1, 1}, []byte{2, 2}, false},
		{[]byte{255, 0}, []byte{0, 255}, false},
		{[]byte{128, 128}, []byte{0, 0}, false},
	} {
		if got := mac.Same(x.a, x.b); got != x.want {
			t.Errorf("P7.2: Same of %x and %x: %v", x.a, x.b, got)
		}
	}
}

// Every two slices of at most three bytes, of which each is one of some.
func TestSameOfShortSlices(t *testing.T) {
	short := [][]byte{{}}
	for at := 0; len(short[at]) < 3; at++ {
		for _, x := range []byte{0, 1, 0x80, 0xff} {
			short = append(short, append(bytes.Clone(short[at]), x))
		}
	}
	for _, a := range short {
		for _, b := range short {
			if got := mac.Same(a, b); got != (string(a) == string(b)) {
				t.Errorf("P7.2: Same of %x and %x: %v", a, b, got)
			}
		}
	}
}

// One byte differs, in any bits, at any place.
func TestSameWithOneByteDiffering(t *testing.T) {
	for x := range 256 {
		for y := range 256 {
			if got := mac.Same([]byte{7, byte(x), 9}, []byte{7, byte(y), 9}); got != (x == y) {
				t.Fatalf("P7.2: Same of 7 %d 9 and 7 %d 9: %v", x, y, got)
			}
		}
	}
	for _, n := range []int{1, 2, 7, 8, 9, 31, 32, 33, 64, 100, 1000} {
		a := someBytes(n, int64(n))
		b := bytes.Clone(a)
		if !mac.Same(a, b) || !mac.Same(a, a) {
			t.Errorf("P7.2: %d bytes and a copy of them differ", n)
		}
		for i := range n {
			for bit := range 8 {
				b[i] ^= 1 << bit
				if mac.Same(a, b) || mac.Same(b, a) {
					t.Errorf("P7.2: %d bytes with another bit %d at %d are the same", n, bit, i)
				}
				b[i] ^= 1 << bit
			}
		}
		if mac.Same(a, a[:n-1]) || mac.Same(a[1:], a) {
			t.Errorf("P7.2: %d bytes and one fewer are the same", n)
		}
	}
}

// Differences that cancel each other in a sum, or under XOR, are differences.
func TestSameWithTwoBytesDiffering(t *testing.T) {
	a := someBytes(40, 77)
	for i := range a {
		for k := range a {
			for bit := range 8 {
				b := bytes.Clone(a)
				b[i] ^= 1 << bit
				b[k] ^= 1 << bit
				if got := mac.Same(a, b); got != (i == k) {
					t.Fatalf("P7.2: Same with bit %d changed at %d and %d: %v", bit, i, k, got)
				}
			}
		}
	}
}

// quickest is the shortest of many times that Same takes for slices that differ at one place.
func quickest(a []byte, place int) time.Duration {
	b := bytes.Clone(a)
	b[place] ^= 1
	best := time.Hour
	for range 40 {
		start := time.Now()
		mac.Same(a, b)
		best = min(best, time.Since(start))
	}
	return best
}

// If Same stopped where it knows its answer, then it would take a thousandth of the time or less for a difference at one end: a fifth leaves room for what else the machine does.
func TestTimeOfSame(t *testing.T) {
	a := someBytes(1<<20, 78)
	first, middle, last := quickest(a, 0), quickest(a, len(a)/2), quickest(a, len(a)-1)
	if low, high := min(first, middle, last), max(first, middle, last); low < high/5 {
		t.Errorf("P7.2: a difference at the first byte takes %v, in the middle %v, at the last %v", first, middle, last)
	}
}

func TestArgumentsStay(t *testing.T) {
	for n := range 140 {
		whole := someBytes(n+300, int64(n))
		before := bytes.Clone(whole)
		key, text := whole[20:20+n], whole[80+n:180+n]
		if got := mac.Sum(key, text); got != model(before[20:20+n], before[80+n:180+n]) {
			t.Fatalf("R3: a key of %d bytes within others: not the sum of these alone", n)
		}
		if mac.Sum(whole[10:10+n], whole[10:10+n]) != model(before[10:10+n], before[10:10+n]) {
			t.Fatalf("R3: key and text in one memory, %d bytes: not their sum", n)
		}
		mac.Same(key, text)
		mac.Same(key, whole[21:21+n])
		if !bytes.Equal(whole, before) {
			t.Fatalf("R3: the arguments (a key of %d bytes) or the memory around them have changed", n)
		}
	}
}

func TestSameCallSameResult(t *testing.T) {
	key, text := someBytes(40, 79), someBytes(90, 80)
	first := mac.Sum(key, text)
	mac.Sum(text, key)
	mac.Sum(someBytes(64, 81), nil)
	if again := mac.Sum(key, text); again != first {
		t.Errorf("R5: Sum again: %x, not %x", again, first)
	}
	changed := first
	changed[0] ^= 1
	if again := mac.Sum(key, text); again != first || again == changed {
		t.Errorf("R5: Sum after a change of its result: %x, not %x", again, first)
	}
	for range 3 {
		if !mac.Same(key, key) || mac.Same(key, text) {
			t.Error("R5: Same again: another answer")
		}
	}
}
