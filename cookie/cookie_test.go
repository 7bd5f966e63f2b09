package cookie_test

import (
	"bytes"
	"crypto/hmac"
	"crypto/sha256"
	"encoding/binary"
	"encoding/hex"
	"math"
	"math/big"
	"math/rand"
	"strings"
	"testing"

	"fairlead/api"
	"fairlead/cookie"
)

var be = binary.BigEndian

func someBytes(n int, seed int64) []byte {
	b := make([]byte, n)
	rand.New(rand.NewSource(seed)).Read(b)
	return b
}

// The model: what the chapter says, word by word, with the library's codes.

func codeOf(key, text []byte) []byte {
	h := hmac.New(sha256.New, key)
	h.Write(text)
	return h.Sum(nil)
}

func textOf(c api.Cookie) []byte {
	b := be.AppendUint64(nil, uint64(c.Born))
	b = be.AppendUint32(b, c.OwnTag)
	b = be.AppendUint32(b, c.PeerTag)
	b = be.AppendUint32(b, c.OwnTsn)
	b = be.AppendUint32(b, c.PeerTsn)
	b = be.AppendUint32(b, c.PeerRwnd)
	b = be.AppendUint16(b, c.Out)
	return be.AppendUint16(b, c.In)
}

// sealed returns text followed by its code.
func sealed(key, text []byte) []byte {
	return append(bytes.Clone(text), codeOf(key, text)...)
}

func encoding(key []byte, c api.Cookie) []byte {
	return sealed(key, textOf(c))
}

// outcome says with what Read must answer, by looking at each of the bytes.
func outcome(key, b []byte) api.Errno {
	switch {
	case len(b) != 64:
		return api.ErrForm
	case !bytes.Equal(codeOf(key, b[:32]), b[32:]):
		return api.ErrMac
	case b[0] >= 128, string(b[8:12]) == "\x00\x00\x00\x00", string(b[12:16]) == "\x00\x00\x00\x00":
		return api.ErrForm
	case b[28] == 0 && b[29] == 0, b[30] == 0 && b[31] == 0:
		return api.ErrForm
	}
	return api.OK
}

// judge passes b to Read, and ends the test if it answers otherwise than the model. It returns the answer.
func judge(t *testing.T, key, b []byte) api.Errno {
	t.Helper()
	c, e := cookie.Read(key, b)
	if want := outcome(key, b); e != want {
		t.Fatalf("P11.1: Read of %d bytes, %.80x, under %.20q: %v, %d; want %d", len(b), b, key, c, e, want)
	}
	if e != api.OK && c != (api.Cookie{}) {
		t.Fatalf("R2: Read of %.80x: %v beside the error %d", b, c, e)
	}
	if e == api.OK && !bytes.Equal(textOf(c), b[:32]) {
		t.Fatalf("P11.1: Read of %x: %v", b, c)
	}
	return e
}

func isRefused(t *testing.T, key, b []byte, want api.Errno) {
	t.Helper()
	if e := judge(t, key, b); e != want {
		t.Fatalf("P11.1: Read of %d bytes, %.80x, under %.20q: %d; want %d", len(b), b, key, e, want)
	}
}

// isWritten compares what Write returns with the model, and reads it again.
func isWritten(t *testing.T, key []byte, c api.Cookie) {
	t.Helper()
	b := cookie.Write(key, c)
	if want := encoding(key, c); !bytes.Equal(b, want) {
		t.Fatalf("P11.1: Write of %v under %.20q: %x; want %x", c, key, b, want)
	}
	got, e := cookie.Read(key, b)
	if isValid := c.Born >= 0 && c.OwnTag > 0 && c.PeerTag > 0 && c.Out > 0 && c.In > 0; !isValid {
		if e != api.ErrForm || got != (api.Cookie{}) {
			t.Fatalf("P11.1: Read of what Write made of %v: %v, %d; want nothing, ErrForm", c, got, e)
		}
	} else if e != api.OK || got != c {
		t.Fatalf("P11.4: Read of what Write made of %v: %v, %d", c, got, e)
	}
}

// one is a cookie of which all numbers, and all of their bytes, differ.
func one() api.Cookie {
	return api.Cookie{Born: 0x0102030405060708, OwnTag: 0x090a0b0c, PeerTag: 0x0d0e0f10, OwnTsn: 0x11121314, PeerTsn: 0x15161718, PeerRwnd: 0x191a1b1c, Out: 0x1d1e, In: 0x1f20}
}

// least is a valid cookie of the smallest numbers.
func least() api.Cookie {
	return api.Cookie{OwnTag: 1, PeerTag: 1, Out: 1, In: 1}
}

func most() api.Cookie {
	const word = 1<<32 - 1
	return api.Cookie{Born: math.MaxInt64, OwnTag: word, PeerTag: word, OwnTsn: word, PeerTsn: word, PeerRwnd: word, Out: 65535, In: 65535}
}

func keys() [][]byte {
	return [][]byte{nil, []byte("k"), []byte("another key"), someBytes(32, 1), someBytes(64, 2), someBytes(65, 3), someBytes(1000, 4)}
}

func TestSize(t *testing.T) {
	if cookie.Size != 64 {
		t.Errorf("Size is %d", cookie.Size)
	}
	for _, key := range keys() {
		for _, c := range []api.Cookie{{}, one(), least(), most(), {Born: -1}} {
			if n := len(cookie.Write(key, c)); n != cookie.Size {
				t.Errorf("P11.1: Write of %v: %d bytes", c, n)
			}
		}
	}
}

// Known encodings, written out, so that no rule of the tests stands between them and the document.
func TestKnownEncodings(t *testing.T) {
	for _, x := range []struct {
		key  string
		c    api.Cookie
		want string
		e    api.Errno
	}{
		{"k", api.Cookie{Born: 5, OwnTag: 1, PeerTag: 2, OwnTsn: 3, PeerTsn: 4, PeerRwnd: 6, Out: 7, In: 8},
			"0000000000000005000000010000000200000003000000040000000600070008d4bf9abed5fcda81814b69911d53f90fd22d5af4a3b57f3406c07e163159dbe3", api.OK},
		{"", least(), "000000000000000000000001000000010000000000000000000000000001000105a1c8fa77ccc379791c73981d4956eebba065f8da042a811998d9d6befb192f", api.OK},
		{"another key", one(), "0102030405060708090a0b0c0d0e0f101112131415161718191a1b1c1d1e1f20d0fa4cd6f8ac3955e7f89b5c157b9d1e45569820c16348ececabc154fd7a8198", api.OK},
		{strings.Repeat("k", 65), most(), "7fffffffffffffffffffffffffffffffffffffffffffffffffffffffffffffffffe41355025f58c0ff6b38dfc28c3d6a19974bf42e97d7647cfaef138e6b944b", api.OK},
		{"k", api.Cookie{Born: -1}, "ffffffffffffffff00000000000000000000000000000000000000000000000088c6626756d88f4af067f86d963df22680e7b00d0c4d85a0dfb43df9c7262366", api.ErrForm},
		{"k", api.Cookie{Born: math.MinInt64, OwnTag: 1 << 31, PeerTag: 1 << 31, OwnTsn: 1 << 31, PeerTsn: 1 << 31, PeerRwnd: 1 << 31, Out: 1 << 15, In: 1 << 15},
			"80000000000000008000000080000000800000008000000080000000800080009acf734ae953fb1a76a1891b01b03a8f417a5683e36ac3e2303760c7bb362ead", api.ErrForm},
	} {
		b := cookie.Write([]byte(x.key), x.c)
		if text := hex.EncodeToString(b); text != x.want {
			t.Errorf("P11.1: Write of %v under %q: %s; want %s", x.c, x.key, text, x.want)
		}
		want := x.c
		if x.e != api.OK {
			want = api.Cookie{}
		}
		whole, _ := hex.DecodeString(x.want)
		if c, e := cookie.Read([]byte(x.key), whole); c != want || e != x.e {
			t.Errorf("P11.1: Read of %s under %q: %v, %d; want %v, %d", x.want, x.key, c, e, want, x.e)
		}
	}
}

func TestExamples(t *testing.T) {
	key := []byte("k")
	c := api.Cookie{Born: 5, OwnTag: 1, PeerTag: 2, OwnTsn: 3, PeerTsn: 4, PeerRwnd: 6, Out: 7, In: 8}
	b := cookie.Write(key, c)
	if _, e := cookie.Read(key, b[:63]); e != api.ErrForm {
		t.Errorf("P11.1: Read of the first 63 bytes: %d", e)
	}
	b[63] ^= 1
	if _, e := cookie.Read(key, b); e != api.ErrMac {
		t.Errorf("P11.1: Read with the last byte changed: %d", e)
	}
	if !cookie.Fresh(c, 5, 0) || cookie.Fresh(c, 4, 0) || cookie.Fresh(c, 6, 0) {
		t.Error("P11.2: Fresh with life 0 is not true at 5 alone")
	}
}

// Each bit of each number, in a cookie of zeros, of ones, and of others.
func TestEveryBit(t *testing.T) {
	var c api.Cookie
	set := map[string]func(bit int){
		"Born":     func(bit int) { c.Born ^= 1 << bit },
		"OwnTag":   func(bit int) { c.OwnTag ^= 1 << (bit % 32) },
		"PeerTag":  func(bit int) { c.PeerTag ^= 1 << (bit % 32) },
		"OwnTsn":   func(bit int) { c.OwnTsn ^= 1 << (bit % 32) },
		"PeerTsn":  func(bit int) { c.PeerTsn ^= 1 << (bit % 32) },
		"PeerRwnd": func(bit int) { c.PeerRwnd ^= 1 << (bit % 32) },
		"Out":      func(bit int) { c.Out ^= 1 << (bit % 16) },
		"In":       func(bit int) { c.In ^= 1 << (bit % 16) },
	}
	for _, base := range []api.Cookie{{}, one(), least(), most()} {
		for name, flip := range set {
			for bit := range 64 {
				c = base
				flip(bit)
				isWritten(t, []byte(name), c)
			}
		}
	}
}

// Each number at its edges, with the others valid: only some of the values are valid.
func TestEdges(t *testing.T) {
	key := []byte("key")
	for _, born := range []int64{0, 1, 255, 256, 1 << 32, 1 << 61, math.MaxInt64, -1, -2, -256, -1 << 32, math.MinInt64, math.MinInt64 + 1} {
		c := one()
		c.Born = born
		isWritten(t, key, c)
	}
	for _, x := range []uint32{0, 1, 2, 255, 256, 65535, 65536, 1<<24 - 1, 1 << 24, 1<<31 - 1, 1 << 31, 1<<32 - 2, 1<<32 - 1} {
		for k := range 5 {
			c := one()
			*[]*uint32{&c.OwnTag, &c.PeerTag, &c.OwnTsn, &c.PeerTsn, &c.PeerRwnd}[k] = x
			isWritten(t, key, c)
			c.OwnTag, c.PeerTag = 1, 1
			isWritten(t, key, c)
		}
	}
	for x := range 1 << 16 {
		c := one()
		c.Out = uint16(x)
		isWritten(t, key, c)
		c.Out, c.In = 1, uint16(x)
		isWritten(t, key, c)
	}
}

// Of the numbers that may be wrong, each set of them is wrong: none of them is made up for by another.
func TestEveryWayToBeInvalid(t *testing.T) {
	for wrong := range 32 {
		for _, c := range []api.Cookie{one(), least(), most()} {
			if wrong&1 != 0 {
				c.Born = -1 - c.Born
			}
			if wrong&2 != 0 {
				c.OwnTag = 0
			}
			if wrong&4 != 0 {
				c.PeerTag = 0
			}
			if wrong&8 != 0 {
				c.Out = 0
			}
			if wrong&16 != 0 {
				c.In = 0
			}
			for _, key := range keys() {
				isWritten(t, key, c)
				if _, e := cookie.Read(key, encoding(key, c)); (e == api.OK) != (wrong == 0) {
					t.Fatalf("P11.1: Read of an encoding of %v: %d", c, e)
				}
			}
		}
	}
	c := least()
	c.PeerTsn, c.OwnTsn, c.PeerRwnd = 0, 0, 0
	if got, e := cookie.Read(nil, encoding(nil, c)); got != c || e != api.OK {
		t.Errorf("P11.1: Read of TSNs 0 and rwnd 0: %v, %d", got, e)
	}
}

func TestRandomCookies(t *testing.T) {
	r := rand.New(rand.NewSource(111))
	for n := range 20000 {
		c := api.Cookie{Born: int64(r.Uint64()) >> r.Intn(64), OwnTag: r.Uint32(), PeerTag: r.Uint32(), OwnTsn: r.Uint32(), PeerTsn: r.Uint32(), PeerRwnd: r.Uint32(), Out: uint16(r.Intn(3)), In: uint16(r.Uint32())}
		isWritten(t, someBytes(n%130, int64(n)), c)
	}
}

// Each number of bytes but 64, also if the last 32 of them are the code of those before, or the first 64 are an encoding.
func TestReadOfEveryLength(t *testing.T) {
	key := []byte("key")
	whole := encoding(key, one())
	for n := range 300 {
		more := append(bytes.Clone(whole), make([]byte, 300)...)[:n]
		text := append(textOf(one()), make([]byte, 300)...)[:n]
		for _, b := range [][]byte{more, make([]byte, n), bytes.Repeat([]byte{0xff}, n), sealed(key, text), someBytes(n, int64(n))} {
			e := judge(t, key, b)
			if len(b) != 64 && e != api.ErrForm {
				t.Fatalf("P11.4: Read of %d bytes: %d", len(b), e)
			}
		}
		if n < 64 {
			isRefused(t, key, whole[:n], api.ErrForm) // what lies within the capacity of a slice is not a part of it
			isRefused(t, key, whole[64-n:], api.ErrForm)
		}
	}
	isRefused(t, key, nil, api.ErrForm)
	isRefused(t, key, []byte{}, api.ErrForm)
	isRefused(t, key, append(bytes.Clone(whole), whole...), api.ErrForm)
	isRefused(t, key, make([]byte, 1<<20), api.ErrForm)
	isRefused(t, key, make([]byte, 64), api.ErrMac)
	isRefused(t, key, bytes.Repeat([]byte{0xff}, 64), api.ErrMac)
}

// Every byte of an encoding with every value, with the code that it had and with the right one.
func TestReadOfChangedBytes(t *testing.T) {
	for k, c := range []api.Cookie{one(), least(), most(), {}, {Born: -1}} {
		key := keys()[k]
		whole := encoding(key, c)
		for at := range whole {
			for x := range 256 {
				b := bytes.Clone(whole)
				b[at] = byte(x)
				if b[at] == whole[at] {
					judge(t, key, b)
					continue
				}
				isRefused(t, key, b, api.ErrMac)
				if at < 32 {
					judge(t, key, sealed(key, b[:32]))
				}
			}
		}
	}
}

// Changes of several bytes of the code, also such as keep a sum or an XOR of them.
func TestReadOfOtherCodes(t *testing.T) {
	key := []byte("key")
	whole := encoding(key, one())
	for i := 32; i < 64; i++ {
		for k := 32; k < i; k++ {
			b := bytes.Clone(whole)
			b[i] ^= 0x10
			b[k] ^= 0x10
			isRefused(t, key, b, api.ErrMac)
			if whole[i] != whole[k] {
				b = bytes.Clone(whole)
				b[i], b[k] = b[k], b[i]
				isRefused(t, key, b, api.ErrMac)
			}
		}
	}
	text := textOf(one())
	plain, keyed := sha256.Sum256(text), sha256.Sum256(append(bytes.Clone(key), text...))
	others := [][]byte{make([]byte, 32), bytes.Repeat([]byte{0xff}, 32), text, plain[:], keyed[:], codeOf(text, key), codeOf(nil, text),
		codeOf(key, nil), codeOf(key, text[:31]), codeOf(key, append(bytes.Clone(text), 0)), codeOf(key, codeOf(key, text)), codeOf(key, textOf(least()))}
	for _, other := range others {
		isRefused(t, key, append(bytes.Clone(text), other...), api.ErrMac)
	}
	swapped := append(bytes.Clone(whole[32:]), whole[:32]...)
	isRefused(t, key, swapped, api.ErrMac)
}

// A wrong code is told before numbers that are wrong, and a wrong length before both.
func TestOrderOfErrors(t *testing.T) {
	key := []byte("key")
	for _, c := range []api.Cookie{{}, {Born: -1}, one()} {
		whole := encoding(key, c)
		isRefused(t, []byte("other"), whole, api.ErrMac)
		isRefused(t, []byte("other"), whole[:63], api.ErrForm)
		isRefused(t, []byte("other"), append(whole, 0), api.ErrForm)
		whole[40] ^= 1
		isRefused(t, key, whole, api.ErrMac)
		isRefused(t, key, whole[:63], api.ErrForm)
	}
	isRefused(t, key, encoding(key, api.Cookie{}), api.ErrForm)
}

// Each key reads what was written under it, and nothing else.
func TestKeys(t *testing.T) {
	all := keys()
	for k, key := range all {
		for l, other := range all {
			b := cookie.Write(key, one())
			if c, e := cookie.Read(other, b); (e == api.OK) != (k == l) || k == l && c != one() {
				t.Errorf("P11.1: written under the key %d, read under %d: %v, %d", k, l, c, e)
			}
			if k != l {
				isRefused(t, other, b, api.ErrMac)
			}
		}
		for at := range key {
			changed := bytes.Clone(key)
			changed[at] ^= 0x80
			isRefused(t, changed, cookie.Write(key, one()), api.ErrMac)
		}
	}
	for n := range 140 {
		isWritten(t, someBytes(n, int64(n)), one())
	}
	// Keys that are one to package mac: zero bytes up to 64, and a digest.
	if _, e := cookie.Read([]byte("k\x00\x00"), cookie.Write([]byte("k"), one())); e != api.OK {
		t.Errorf("P11.1: a key with zero bytes behind it: %d", e)
	}
	digest := sha256.Sum256(all[6])
	if _, e := cookie.Read(digest[:], cookie.Write(all[6], one())); e != api.OK {
		t.Errorf("P11.1: the digest of a long key: %d", e)
	}
}

// isFresh does what P11.2 says, in numbers without bounds.
func isFresh(born, now, life int64) bool {
	age := new(big.Int).Sub(big.NewInt(now), big.NewInt(born))
	return life >= 0 && age.Sign() >= 0 && age.Cmp(big.NewInt(life)) <= 0
}

func freshLikeModel(t *testing.T, born, now, life int64) {
	t.Helper()
	want := isFresh(born, now, life)
	for _, c := range []api.Cookie{{}, one(), most()} { // whether it is valid does not matter
		c.Born = born
		if got := cookie.Fresh(c, now, life); got != want {
			t.Fatalf("P11.2: Fresh of a cookie of %d at %d with life %d: %v", born, now, life, got)
		}
	}
}

func TestFreshWithSmallNumbers(t *testing.T) {
	for born := int64(-12); born <= 12; born++ {
		for now := int64(-12); now <= 12; now++ {
			for life := int64(-4); life <= 26; life++ {
				freshLikeModel(t, born, now, life)
			}
		}
	}
}

// Numbers so far apart that their difference, or their sum, overflows.
func TestFreshWithGreatNumbers(t *testing.T) {
	var some []int64
	for _, base := range []int64{math.MinInt64, math.MinInt64 / 2, -1 << 61, -1 << 32, -1 << 20, 0, 1 << 20, 1 << 31, 1 << 32, 1 << 61, math.MaxInt64 / 2, math.MaxInt64} {
		for d := int64(-2); d <= 2; d++ {
			if x := base + d; (x >= base) == (d >= 0) {
				some = append(some, x)
			}
		}
	}
	for _, born := range some {
		for _, now := range some {
			for _, life := range some {
				freshLikeModel(t, born, now, life)
			}
			freshLikeModel(t, born, now, now-born)
			freshLikeModel(t, born, now, now-born-1)
		}
	}
}

func TestKnownDerivations(t *testing.T) {
	long := strings.Repeat("k", 64)
	for _, x := range []struct {
		key, text string
		tag, tsn  uint32
	}{
		{"Jefe", "what do ya want for nothing?", 0x5bdcc146, 0xbf60754e},
		{"", "", 0xb613679a, 0x0814d9ec},
		{"key", "", 0x5d5d1395, 0x63c95b59},
		{"", "text", 0x0611b704, 0xabab473f},
		{"key", "text", 0x6afa9046, 0xa9579cad},
		{"text", "key", 0xe12e7c9c, 0x95df2991},
		{long, "text", 0x0414bb1d, 0x8c0c4556},
		{long + "k", "text", 0x5b695801, 0x23e3d7e7},
		{"key", "text 811145871", 0x88f57784, 0},  // found by search: a TSN may be 0
		{"key", "text 5787360956", 1, 0xfba33498}, // found by search: the code begins with four bytes of 0
	} {
		if tag, tsn := cookie.Derive([]byte(x.key), []byte(x.text)); tag != x.tag || tsn != x.tsn {
			t.Errorf("P11.3: Derive of %q and %q: %x, %x; want %x, %x", x.key, x.text, tag, tsn, x.tag, x.tsn)
		}
	}
}

func derivedLikeModel(t *testing.T, key, text []byte) {
	t.Helper()
	code := codeOf(key, text)
	want := be.Uint32(code)
	if want == 0 {
		want = 1
	}
	if tag, tsn := cookie.Derive(key, text); tag != want || tsn != be.Uint32(code[4:]) {
		t.Fatalf("P11.3: Derive of %.40x and %.40x: %x, %x; want the first 8 bytes of %x", key, text, tag, tsn, code)
	}
}

func TestDerive(t *testing.T) {
	b := someBytes(300, 112)
	for n := range 150 {
		for k := range 150 {
			derivedLikeModel(t, b[:n], b[n:n+k])
		}
	}
	derivedLikeModel(t, b, someBytes(1<<20, 113))
	derivedLikeModel(t, someBytes(1<<20, 114), b)
	for n := range 256 {
		derivedLikeModel(t, []byte{byte(n)}, []byte{byte(n)})
	}
}

func TestNilIsEmpty(t *testing.T) {
	text := []byte("text")
	if !bytes.Equal(cookie.Write(nil, one()), cookie.Write([]byte{}, one())) {
		t.Error("R3: Write under a nil key and under an empty one")
	}
	for _, key := range [][]byte{nil, {}} {
		if c, e := cookie.Read(key, encoding(nil, one())); c != one() || e != api.OK {
			t.Errorf("R3: Read under the key %#v: %v, %d", key, c, e)
		}
		derivedLikeModel(t, key, text)
		derivedLikeModel(t, text, key)
		derivedLikeModel(t, key, key)
	}
}

// The arguments are parts of longer slices, of which nothing may change.
func TestArgumentsStay(t *testing.T) {
	for n := range 100 {
		whole := someBytes(300, int64(n))
		key := whole[10 : 10+n]
		bad, good := whole[110:174], whole[200:264]
		copy(good, encoding(key, one()))
		before := bytes.Clone(whole)
		cookie.Write(key, one())
		isRefused(t, key, bad, api.ErrMac)
		isRefused(t, key, bad[:40], api.ErrForm)
		if c, e := cookie.Read(key, good); c != one() || e != api.OK {
			t.Fatalf("R3: Read of bytes within others: %v, %d", c, e)
		}
		derivedLikeModel(t, key, good)
		derivedLikeModel(t, whole[5:50], whole[5:50])
		if !bytes.Equal(whole, before) {
			t.Fatalf("R3: the arguments (a key of %d bytes) or the memory around them have changed", n)
		}
	}
}

// Results and arguments that are changed afterwards, up to their capacities, change no other result.
func TestSameCallSameResult(t *testing.T) {
	for range 3 {
		for _, key := range keys() {
			for _, c := range []api.Cookie{one(), least(), {}} {
				own := bytes.Clone(key)
				first, other := cookie.Write(own, c), cookie.Write(own, least())
				for _, b := range [][]byte{own, other} {
					b = b[:cap(b)]
					for i := range b {
						b[i] = 'x'
					}
				}
				if !bytes.Equal(first, encoding(key, c)) {
					t.Fatalf("R3: Write of %v: %x after changes elsewhere", c, first)
				}
				got, e := cookie.Read(key, first)
				for i := range first {
					first[i] = 'y'
				}
				again, f := cookie.Read(key, encoding(key, c))
				if got != again || e != f {
					t.Fatalf("R5: Read of %v: %v, %d, and then %v, %d", c, got, e, again, f)
				}
				isWritten(t, key, c)
				derivedLikeModel(t, key, []byte("text"))
				freshLikeModel(t, c.Born, c.Born+3, 3)
			}
		}
	}
}
