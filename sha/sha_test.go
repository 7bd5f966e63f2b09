package sha_test

import (
	"bytes"
	"crypto/sha256"
	"encoding/hex"
	"math/big"
	"math/rand"
	"strings"
	"testing"

	"fairlead/sha"
)

func someBytes(n int, seed int64) []byte {
	b := make([]byte, n)
	rand.New(rand.NewSource(seed)).Read(b)
	return b
}

func text(digest [32]byte) string {
	return hex.EncodeToString(digest[:])
}

// primes returns the first n of them.
func primes(n int) []int64 {
	var l []int64
	for p := int64(2); len(l) < n; p++ {
		if big.NewInt(p).ProbablyPrime(0) {
			l = append(l, p)
		}
	}
	return l
}

// fraction returns the first 32 bits of the fractional part of a root of x: the greatest number whose power is at most x times 2^32 to the same power.
func fraction(x int64, degree int64) uint32 {
	limit := new(big.Int).Lsh(big.NewInt(x), uint(32*degree))
	root := new(big.Int)
	for i := 40; i >= 0; i-- {
		next := new(big.Int).SetBit(root, i, 1)
		if new(big.Int).Exp(next, big.NewInt(degree), nil).Cmp(limit) <= 0 {
			root = next
		}
	}
	return uint32(root.Uint64())
}

// model has the numbers of the chapter's Terms, found as they are defined.
type model struct {
	k []uint32
	h [8]uint32
}

func newModel() model {
	var m model
	for i, p := range primes(64) {
		m.k = append(m.k, fraction(p, 3))
		if i < 8 {
			m.h[i] = fraction(p, 2)
		}
	}
	return m
}

// word is a number of 32 bits, most significant first, so that rotating and shifting are moves.
type word [32]bool

func wordOf(x uint32) (w word) {
	for i := range w {
		w[i] = x>>(31-i)&1 == 1
	}
	return w
}

func (w word) number() (x uint32) {
	for _, bit := range w {
		x *= 2
		if bit {
			x++
		}
	}
	return x
}

func right(x uint32, n int) uint32 {
	var out word
	for i, bit := range wordOf(x) {
		out[(i+n)%32] = bit
	}
	return out.number()
}

func down(x uint32, n int) uint32 {
	var out word
	for i, bit := range wordOf(x) {
		if i+n < 32 {
			out[i+n] = bit
		}
	}
	return out.number()
}

func majority(a, b, c uint32) uint32 {
	var out word
	x, y, z := wordOf(a), wordOf(b), wordOf(c)
	for i := range out {
		out[i] = x[i] && y[i] || x[i] && z[i] || y[i] && z[i]
	}
	return out.number()
}

// sum does what P6.1 says with all of the padded bytes at once.
func (m model) sum(b []byte) (digest [32]byte) {
	padded := append(bytes.Clone(b), 0x80)
	for len(padded)%64 != 56 {
		padded = append(padded, 0)
	}
	padded = append(padded, big.NewInt(int64(8*len(b))).FillBytes(make([]byte, 8))...)
	h := m.h
	for ; len(padded) > 0; padded = padded[64:] {
		h = m.block(h, padded[:64])
	}
	for i, x := range h {
		big.NewInt(int64(x)).FillBytes(digest[4*i : 4*i+4])
	}
	return digest
}

func (m model) block(h [8]uint32, b []byte) [8]uint32 {
	var w []uint32
	for t := range 64 {
		if t < 16 {
			w = append(w, uint32(new(big.Int).SetBytes(b[4*t:4*t+4]).Uint64()))
			continue
		}
		x, y := w[t-15], w[t-2]
		w = append(w, w[t-16]+w[t-7]+(right(x, 7)^right(x, 18)^down(x, 3))+(right(y, 17)^right(y, 19)^down(y, 10)))
	}
	v := h
	for t := range 64 {
		p := v[7] + (right(v[4], 6) ^ right(v[4], 11) ^ right(v[4], 25)) + ((v[4] & v[5]) ^ (^v[4] & v[6])) + m.k[t] + w[t]
		q := (right(v[0], 2) ^ right(v[0], 13) ^ right(v[0], 22)) + majority(v[0], v[1], v[2])
		v = [8]uint32{p + q, v[0], v[1], v[2], v[3] + p, v[4], v[5], v[6]}
	}
	for i := range h {
		h[i] += v[i]
	}
	return h
}

// check compares both ways to a digest with the library's, and ends the test if one differs.
func check(t *testing.T, b []byte) {
	t.Helper()
	want := sha256.Sum256(b)
	if got := sha.Sum(b); got != want {
		t.Fatalf("P6.1: Sum of %d bytes: %x, not %x", len(b), got, want)
	}
	s := sha.New()
	s.Write(b)
	if got := s.Sum(); got != want {
		t.Fatalf("P6.2: the digest of a state of %d bytes: %x, not %x", len(b), got, want)
	}
}

// Known answers, written out, so that no rule of the tests stands between them and the document.
func TestKnownDigests(t *testing.T) {
	for _, x := range []struct{ b, want string }{
		{"", "e3b0c44298fc1c149afbf4c8996fb92427ae41e4649b934ca495991b7852b855"},
		{"abc", "ba7816bf8f01cfea414140de5dae2223b00361a396177a9cb410ff61f20015ad"},
		{"abcdbcdecdefdefgefghfghighijhijkijkljklmklmnlmnomnopnopq", "248d6a61d20638b8e5c026930c3e6039a33ce45964ff2167f6ecedd419db06c1"},
		{"abcdefghbcdefghicdefghijdefghijkefghijklfghijklmghijklmnhijklmnoijklmnopjklmnopqklmnopqrlmnopqrsmnopqrstnopqrstu", "cf5b16a778af8380036ce59e7b0492370b249b11e8f07a51afac45037afee9d1"},
		{"\xbd", "68325720aabd7c82f30f554b313d0570c95accbb7dc4b5aae11204c08ffe732b"},
		{"\xc9\x8c\x8e\x55", "7abc22c0ae5af26ce93dbb94433a0e0b2e119d014f8e7f65bd56c61ccccd9504"},
		{strings.Repeat("\x00", 55), "02779466cdec163811d078815c633f21901413081449002f24aa3e80f0b88ef7"},
		{strings.Repeat("\x00", 56), "d4817aa5497628e7c77e6b606107042bbba3130888c5f47a375e6179be789fbb"},
		{strings.Repeat("\x00", 57), "65a16cb7861335d5ace3c60718b5052e44660726da4cd13bb745381b235a1785"},
		{strings.Repeat("\x00", 64), "f5a5fd42d16a20302798ef6ed309979b43003d2320d9f0e8ea9831a92759fb4b"},
		{strings.Repeat("\x00", 1000), "541b3e9daa09b20bf85fa273e5cbd3e80185aa4ec298e765db87742b70138a53"},
		{strings.Repeat("a", 1000000), "cdc76e5c9914fb9281a1c7e284d73e67f1809a48a497200e046d39ccc7112cd0"},
	} {
		if got := text(sha.Sum([]byte(x.b))); got != x.want {
			t.Errorf("P6.1: Sum of %.70q (%d bytes): %s, not %s", x.b, len(x.b), got, x.want)
		}
		s := sha.New()
		s.Write([]byte(x.b))
		if got := text(s.Sum()); got != x.want {
			t.Errorf("P6.2: the digest of a state of %.70q (%d bytes): %s, not %s", x.b, len(x.b), got, x.want)
		}
	}
}

// Each length up to some blocks, of which those around 55, 63 and 64 modulo 64 are the edges of the padding.
func TestEveryLength(t *testing.T) {
	m := newModel()
	b := someBytes(400, 6)
	for n := range len(b) + 1 {
		if got, want := sha.Sum(b[:n]), m.sum(b[:n]); got != want {
			t.Fatalf("P6.1: Sum of %d bytes: %x, not %x", n, got, want)
		}
		check(t, b[:n])
	}
}

func TestLengthsOfManyBytes(t *testing.T) {
	b := someBytes(1<<16+200, 61)
	for _, at := range []int{1 << 10, 1 << 12, 1 << 13, 1 << 15, 1 << 16} {
		for n := at - 70; n <= at+70; n++ {
			check(t, b[:n])
		}
	}
}

// Each bit of a block, alone set and alone clear, is at its place in the words.
func TestEveryBit(t *testing.T) {
	for _, n := range []int{32, 55, 56, 63, 64, 65, 128} {
		zeros, ones := make([]byte, n), bytes.Repeat([]byte{0xff}, n)
		check(t, zeros)
		check(t, ones)
		for i := range 8 * n {
			zeros[i/8] ^= 1 << (i % 8)
			ones[i/8] ^= 1 << (i % 8)
			check(t, zeros)
			check(t, ones)
			zeros[i/8] ^= 1 << (i % 8)
			ones[i/8] ^= 1 << (i % 8)
		}
	}
}

// What looks like padding is input like other input.
func TestBytesLikePadding(t *testing.T) {
	seen := map[[32]byte]string{}
	for n := range 130 {
		for _, last := range []string{"", "\x80", "\x80\x00", "\x00", "\x00\x00"} {
			b := strings.Repeat("x", n) + last
			digest := sha.Sum([]byte(b))
			if other, ok := seen[digest]; ok {
				t.Errorf("P6.1: %q and %q have one digest", other, b)
			}
			seen[digest] = b
			check(t, []byte(b))
		}
	}
	whole := append(bytes.Repeat([]byte("x"), 55), 0x80, 0, 0, 0, 0, 0, 0, 1, 0xb8)
	if sha.Sum(whole) == sha.Sum(whole[:55]) {
		t.Error("P6.1: a padded block has the digest of its bytes")
	}
	check(t, whole)
}

// The length in bits takes more than 32 of them.
func TestLengthBeyond32Bits(t *testing.T) {
	b := someBytes(1<<20, 62)
	s, want := sha.New(), sha256.New()
	for range 1 << 9 {
		s.Write(b)
		want.Write(b)
	}
	for _, n := range []int{0, 1, 54, 1, 1, 7, 1} {
		s.Write(b[:n])
		want.Write(b[:n])
		if got := s.Sum(); !bytes.Equal(got[:], want.Sum(nil)) {
			t.Errorf("P6.1: the digest of more than 2^32 bits: %x, not %x", got, want.Sum(nil))
		}
	}
}

func TestNew(t *testing.T) {
	s := sha.New()
	if s == nil {
		t.Fatal("P6.2: New: nil")
	}
	if s.Sum() != sha.Sum(nil) || s.Sum() != sha.Sum([]byte{}) || s.Sum() != sha256.Sum256(nil) {
		t.Errorf("P6.2: the digest of a new state: %x", s.Sum())
	}
	if other := sha.New(); other == s {
		t.Error("P6.2: New: the same state again")
	}
}

// write has the bytes absorbed by a state in parts.
func write(s *sha.State, parts ...[]byte) [32]byte {
	for _, p := range parts {
		s.Write(p)
	}
	return s.Sum()
}

// The division of the bytes is not seen: every one into three parts, empty ones among them.
func TestDivisionsIntoThree(t *testing.T) {
	for _, n := range []int{0, 1, 3, 56, 64, 65, 130, 200} {
		b := someBytes(n, int64(n))
		want := sha256.Sum256(b)
		for i := range n + 1 {
			for k := i; k <= n; k++ {
				if got := write(sha.New(), b[:i], b[i:k], b[k:]); got != want {
					t.Fatalf("consequence: %d bytes divided at %d and %d: %x, not %x", n, i, k, got, want)
				}
			}
		}
	}
}

func TestDivisionsIntoEqualParts(t *testing.T) {
	b := someBytes(1000, 63)
	want := sha256.Sum256(b)
	for size := 1; size <= len(b); size++ {
		s := sha.New()
		for at := 0; at < len(b); at += size {
			s.Write(b[at:min(at+size, len(b))])
		}
		if got := s.Sum(); got != want {
			t.Fatalf("consequence: in parts of %d: %x, not %x", size, got, want)
		}
	}
}

func TestRandomDivisions(t *testing.T) {
	random := rand.New(rand.NewSource(64))
	for round := range 300 {
		b := someBytes(random.Intn(2000), int64(round))
		s := sha.New()
		for at := 0; at < len(b); {
			n := min(random.Intn(1+random.Intn(300)), len(b)-at)
			s.Write(b[at : at+n])
			at += n
			if random.Intn(4) == 0 {
				if got, want := s.Sum(), sha256.Sum256(b[:at]); got != want {
					t.Fatalf("P6.2: the digest after %d of %d bytes: %x, not %x", at, len(b), got, want)
				}
			}
		}
		if got, want := s.Sum(), sha256.Sum256(b); got != want {
			t.Fatalf("consequence: %d bytes divided at random: %x, not %x", len(b), got, want)
		}
	}
}

// No bytes more are no change, wherever they come.
func TestWriteOfNoBytes(t *testing.T) {
	b := someBytes(140, 65)
	s := sha.New()
	for i := range b {
		s.Write(nil)
		s.Write([]byte{})
		s.Write(b[i:i])
		if got, want := s.Sum(), sha256.Sum256(b[:i]); got != want {
			t.Fatalf("P6.2: after %d bytes and none more: %x, not %x", i, got, want)
		}
		s.Write(b[i : i+1])
	}
}

// Sum is called again and again, and more is written after it, at each length.
func TestSumDoesNotChange(t *testing.T) {
	b := someBytes(300, 66)
	s := sha.New()
	for n := range len(b) + 1 {
		want := sha256.Sum256(b[:n])
		for again := range 3 {
			if got := s.Sum(); got != want {
				t.Fatalf("P6.2: Sum number %d of %d bytes: %x, not %x", again, n, got, want)
			}
		}
		if n < len(b) {
			s.Write(b[n : n+1])
		}
	}
	for n := range len(b) + 1 {
		s := sha.New()
		s.Write(b[:n])
		s.Sum()
		s.Write(b[n:])
		if got, want := s.Sum(), sha256.Sum256(b); got != want {
			t.Fatalf("P6.2: of %d bytes, %d of them after a Sum: %x, not %x", len(b), len(b)-n, got, want)
		}
	}
}

func TestZeroState(t *testing.T) {
	if got, want := new(sha.State).Sum(), sha256.Sum256(nil); got != want {
		t.Errorf("P6.2: the digest of a zero state: %x, not %x", got, want)
	}
	b := someBytes(300, 67)
	for n := range len(b) + 1 {
		var s sha.State
		first := write(&s, nil)
		s.Write(b[:n])
		half := s.Sum()
		s.Write(b[n:])
		if first != sha256.Sum256(nil) || half != sha256.Sum256(b[:n]) || s.Sum() != sha256.Sum256(b) {
			t.Fatalf("P6.2: a zero state, divided at %d: %x, %x, %x", n, first, half, s.Sum())
		}
	}
}

func TestNilState(t *testing.T) {
	var s *sha.State
	for _, b := range [][]byte{nil, {}, []byte("abc"), someBytes(64, 1), someBytes(1000, 2)} {
		s.Write(b)
		if got := s.Sum(); got != [32]byte{} {
			t.Errorf("P6.2: the digest of a nil state: %x", got)
		}
	}
}

// What is written to one state is not seen in another.
func TestStatesAreIndependent(t *testing.T) {
	random := rand.New(rand.NewSource(68))
	states, models := make([]*sha.State, 5), make([][]byte, 5)
	for i := range states {
		states[i] = sha.New()
	}
	states[4] = &sha.State{}
	for round := range 500 {
		i := random.Intn(5)
		b := someBytes(random.Intn(100), int64(round))
		states[i].Write(b)
		models[i] = append(models[i], b...)
		if round%20 == 0 {
			sha.Sum(b)
			states[i] = sha.New()
			models[i] = nil
		}
		for k, s := range states {
			if got, want := s.Sum(), sha256.Sum256(models[k]); got != want {
				t.Fatalf("consequence: one of five states, of %d bytes: %x, not %x", len(models[k]), got, want)
			}
		}
	}
}

// The slice that was written may be used for something else at once.
func TestLaterChangesOfSlices(t *testing.T) {
	for n := range 200 {
		b := someBytes(n, int64(n))
		want := sha256.Sum256(b)
		s := sha.New()
		s.Write(b)
		clear(b)
		if got := s.Sum(); got != want {
			t.Fatalf("consequence: %d bytes that changed later: %x, not %x", n, got, want)
		}
	}
	var one [7]byte
	s := sha.New()
	b := someBytes(700, 69)
	for at := 0; at < len(b); at += 7 {
		copy(one[:], b[at:])
		s.Write(one[:])
	}
	if got, want := s.Sum(), sha256.Sum256(b); got != want {
		t.Errorf("consequence: through one slice: %x, not %x", got, want)
	}
}

func TestArgumentsStay(t *testing.T) {
	for n := range 200 {
		whole := someBytes(n+200, int64(n))
		before := bytes.Clone(whole)
		b := whole[50 : 50+n]
		want := sha256.Sum256(before[50 : 50+n])
		if sha.Sum(b) != want || write(sha.New(), b) != want {
			t.Fatalf("R3: of %d bytes within others: not the digest of these alone", n)
		}
		if !bytes.Equal(whole, before) {
			t.Fatalf("R3: the argument of %d bytes or the memory around it has changed", n)
		}
	}
}

func TestSameCallSameDigest(t *testing.T) {
	b := someBytes(150, 70)
	first := sha.Sum(b)
	sha.Sum([]byte("others"))
	write(sha.New(), []byte("others"))
	if again := sha.Sum(b); again != first {
		t.Errorf("R5: Sum again: %x, not %x", again, first)
	}
}
