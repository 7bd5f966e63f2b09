package chunk_test

import (
	"bytes"
	"math/rand"
	"testing"

	"fairlead/api"
	"fairlead/chunk"
)

// longest is the length of the longest body that a chunk may have.
const longest = 65531

func someBytes(n int, seed int64) []byte {
	b := make([]byte, n)
	rand.New(rand.NewSource(seed)).Read(b)
	return b
}

func join(parts ...[]byte) []byte {
	return bytes.Join(parts, nil)
}

// encoding does what the chapter's Terms say; the body has at most 65531 bytes.
func encoding(kind, flags byte, body []byte) []byte {
	length := 4 + len(body)
	b := append([]byte{kind, flags, byte(length / 256), byte(length % 256)}, body...)
	for len(b)%4 != 0 {
		b = append(b, 0)
	}
	return b
}

// decoded finds by trial the length of the body of a chunk whose encoding is a prefix of b.
func decoded(b []byte) (length int, ok bool) {
	for n := range min(len(b), 4+longest) - 3 {
		if bytes.HasPrefix(b, encoding(b[0], b[1], b[4:4+n])) {
			return n, true
		}
	}
	return 0, false
}

// isChunk ends the test unless Read finds in b the chunk of that kind, those flags and that body.
func isChunk(t *testing.T, b []byte, kind, flags byte, body []byte) {
	t.Helper()
	c, n, e := chunk.Read(b)
	if want := len(encoding(kind, flags, body)); e != api.OK || n != want || c.Kind != kind || c.Flags != flags || !bytes.Equal(c.Body, body) {
		t.Fatalf("P8.2: Read of %d bytes, %.12x: kind %d, flags %d, a body of %d bytes, %d, %d; want kind %d, flags %d, a body of %d bytes, %d, OK",
			len(b), b, c.Kind, c.Flags, len(c.Body), n, e, kind, flags, len(body), want)
	}
}

// isNone ends the test unless Read finds no chunk in b, and returns nothing else.
func isNone(t *testing.T, b []byte) {
	t.Helper()
	c, n, e := chunk.Read(b)
	if e != api.ErrForm || n != 0 || c.Kind != 0 || c.Flags != 0 || len(c.Body) != 0 {
		t.Fatalf("P8.2, R2: Read of %d bytes, %.12x: kind %d, flags %d, a body of %d bytes, %d, %d; want an empty chunk, 0, ErrForm",
			len(b), b, c.Kind, c.Flags, len(c.Body), n, e)
	}
}

func TestWriteOfExamples(t *testing.T) {
	for _, x := range []struct {
		c    api.Chunk
		want string
	}{
		{api.Chunk{Kind: api.KindEcho, Body: []byte{0xaa}}, "\x0a\x00\x00\x05\xaa\x00\x00\x00"},
		{api.Chunk{Kind: api.KindCookieAck}, "\x0b\x00\x00\x04"},
		{api.Chunk{Kind: api.KindCookieAck, Body: []byte{}}, "\x0b\x00\x00\x04"},
		{api.Chunk{}, "\x00\x00\x00\x04"},
		{api.Chunk{Flags: 3, Body: []byte("ab")}, "\x00\x03\x00\x06ab\x00\x00"},
		{api.Chunk{Kind: api.KindForward, Body: []byte("abc")}, "\xc0\x00\x00\x07abc\x00"},
		{api.Chunk{Kind: 0xff, Flags: 0xfe, Body: []byte("abcd")}, "\xff\xfe\x00\x08abcd"},
		{api.Chunk{Kind: 1, Flags: 2, Body: []byte("abcde")}, "\x01\x02\x00\x09abcde\x00\x00\x00"},
		{api.Chunk{Kind: 1, Body: []byte{0, 0}}, "\x01\x00\x00\x06\x00\x00\x00\x00"},
		{api.Chunk{Kind: 1, Body: []byte{0, 0, 0, 0}}, "\x01\x00\x00\x08\x00\x00\x00\x00"},
	} {
		if got := chunk.Write(x.c); string(got) != x.want {
			t.Errorf("P8.1: Write of %v: %x; want %x", x.c, got, x.want)
		}
	}
}

func TestReadOfExamples(t *testing.T) {
	echo := "\x0a\x00\x00\x05\xaa\x00\x00\x00"
	isChunk(t, []byte(echo), 10, 0, []byte{0xaa})
	isChunk(t, []byte(echo+"\x09"), 10, 0, []byte{0xaa})
	isChunk(t, []byte("\x0b\x00\x00\x04"), 11, 0, nil)
	isChunk(t, []byte("\x00\x00\x00\x04"), 0, 0, nil)
	isChunk(t, []byte("\xff\xfe\x00\x08abcd"), 0xff, 0xfe, []byte("abcd"))
	for _, text := range []string{
		echo[:7],
		"\x0a\x00\x00\x05\xaa\x00\x00\x01",
		"\x0b\x00\x00\x03",
		"",
		"\x0b", "\x0b\x00", "\x0b\x00\x00",
		"\x0b\x00\x00\x00", "\x0b\x00\x00\x01\x00\x00\x00\x00",
		"\x0b\x00\x00\x05", "\x0b\x00\x00\x09abcd", "\x0b\x00\xff\xff\x00\x00\x00\x00",
		"\x0b\x00\x04\x00", "\x0b\x00\x05\x00\x00\x00\x00\x00", // a length with its bytes exchanged
	} {
		isNone(t, []byte(text))
	}
}

// lengths has those of short bodies and of those next to the limits of one and of two bytes.
func lengths() []int {
	var all []int
	for n := range 70 {
		all = append(all, n)
	}
	for n := 245; n <= 265; n++ {
		all = append(all, n)
	}
	for n := longest - 16; n <= longest; n++ {
		all = append(all, n)
	}
	return append(all, 1000, 4095, 4096, 32763, 32764, 65279, 65280)
}

func TestEveryLength(t *testing.T) {
	b := someBytes(longest, 81)
	for _, n := range lengths() {
		for _, body := range [][]byte{b[:n], make([]byte, n), bytes.Repeat([]byte{0xff}, n)} {
			c := api.Chunk{Kind: 7, Flags: 9, Body: body}
			got := chunk.Write(c)
			if !bytes.Equal(got, encoding(7, 9, body)) {
				t.Fatalf("P8.1: Write of a body of %d bytes: %d bytes, %.12x", n, len(got), got)
			}
			isChunk(t, got, 7, 9, body)
		}
	}
}

func TestEveryKindAndFlags(t *testing.T) {
	body := []byte{1, 2, 3}
	for kind := range 256 {
		for flags := range 256 {
			c := api.Chunk{Kind: uint8(kind), Flags: uint8(flags), Body: body}
			got := chunk.Write(c)
			if !bytes.Equal(got, encoding(byte(kind), byte(flags), body)) {
				t.Fatalf("P8.1: Write of kind %d, flags %d: %x", kind, flags, got)
			}
			isChunk(t, got, byte(kind), byte(flags), body)
		}
	}
}

func TestWriteOfTooLongBody(t *testing.T) {
	b := someBytes(1<<20, 82)
	for _, n := range []int{longest + 1, longest + 2, longest + 3, longest + 4, longest + 5, 1<<16 - 1 + 4, 1 << 16, 1<<16 + 1, 1<<16 + 4, 1 << 17, 1 << 20} {
		if got := chunk.Write(api.Chunk{Kind: 1, Flags: 1, Body: b[:n]}); len(got) != 0 {
			t.Errorf("P8.1: Write of a body of %d bytes: %d bytes; want none", n, len(got))
		}
	}
	if got := chunk.Write(api.Chunk{Body: b[:longest]}); len(got) != 1<<16 {
		t.Errorf("P8.1: Write of a body of %d bytes: %d bytes", longest, len(got))
	}
}

// Each length that two bytes can tell, in a slice that has room for some.
func TestReadOfEveryLengthField(t *testing.T) {
	for _, size := range []int{4, 5, 7, 8, 9, 40, 41, 300, 1000, 65534, 65535, 65536, 65540} {
		b := make([]byte, size)
		b[0], b[1] = 5, 6
		for length := range 1 << 16 {
			b[2], b[3] = byte(length/256), byte(length%256)
			if length < 4 || (length+3)/4*4 > size {
				isNone(t, b)
				continue
			}
			if size > 1000 && length > 300 && length%997 != 0 && length < 65500 {
				continue // to copy all of these would take minutes
			}
			isChunk(t, b, 5, 6, b[4:length])
		}
	}
}

func TestReadOfPrefixes(t *testing.T) {
	for n := range 30 {
		body := someBytes(n, int64(n))
		whole := encoding(3, 4, body)
		for k := range whole {
			isNone(t, whole[:k])
		}
		for k := range 10 {
			isChunk(t, join(whole, someBytes(k, 83)), 3, 4, body)
			isChunk(t, join(whole, make([]byte, k)), 3, 4, body)
			isChunk(t, join(whole, bytes.Repeat([]byte{0xff}, k)), 3, 4, body)
		}
	}
	whole := encoding(3, 4, someBytes(longest, 84))
	for _, k := range []int{0, 3, 4, 5, 65531, 65532, 65533, 65534, 65535} {
		isNone(t, whole[:k])
	}
}

// What lies within the capacity of a slice is not a part of it.
func TestReadStopsAtLength(t *testing.T) {
	for n := range 20 {
		whole := encoding(3, 4, someBytes(n, int64(n)))
		for k := range whole {
			isNone(t, whole[:k:len(whole)])
		}
	}
}

func TestReadOfPadding(t *testing.T) {
	for n := range 13 {
		body := bytes.Repeat([]byte{0xff}, n)
		whole := join(encoding(3, 4, body), []byte{0, 0, 0, 0})
		end := len(whole) - 4
		for at := 4 + n; at < len(whole); at++ {
			for x := 1; x < 256; x++ {
				whole[at] = byte(x)
				if at < end {
					isNone(t, whole)
				} else {
					isChunk(t, whole, 3, 4, body)
				}
			}
			whole[at] = 0
		}
	}
	// Bytes whose sum, or whose XOR, is 0.
	for _, text := range []string{"a\x01\xff\x00", "a\x00\x80\x80", "a\x55\xaa\x01", "a\x07\x07\x00"} {
		isNone(t, []byte("\x01\x00\x00\x05"+text))
	}
}

// Every slice of at most 7 bytes after kind and flags, of which each is one of a few, is judged as the definition does.
func TestReadOfShortSlices(t *testing.T) {
	values := []byte{0, 1, 3, 4, 5, 7, 8}
	var visit func(b []byte)
	visit = func(b []byte) {
		if n, ok := decoded(b); ok {
			isChunk(t, b, b[0], b[1], b[4:4+n])
		} else {
			isNone(t, b)
		}
		if len(b) == 9 {
			return
		}
		for _, x := range values {
			visit(append(bytes.Clone(b), x))
		}
	}
	visit([]byte{1, 2})
	for n := range 4 {
		isNone(t, make([]byte, n))
	}
}

// Write reproduces what Read read, of any bytes; the lengths are made small, so that many of them are chunks.
func TestWriteReproducesWhatReadRead(t *testing.T) {
	r := rand.New(rand.NewSource(85))
	chunks := 0
	for range 200000 {
		b := make([]byte, r.Intn(24))
		r.Read(b)
		if len(b) >= 4 {
			b[2], b[3] = 0, byte(r.Intn(26))
		}
		if r.Intn(2) == 0 && len(b) > 6 {
			clear(b[len(b)-3:])
		}
		length, ok := decoded(b)
		if !ok {
			isNone(t, b)
			continue
		}
		chunks++
		isChunk(t, b, b[0], b[1], b[4:4+length])
		c, n, _ := chunk.Read(b)
		if again := chunk.Write(c); !bytes.Equal(again, b[:n]) {
			t.Fatalf("consequence: Read of %x, and Write of that: %x", b, again)
		}
	}
	if chunks < 20000 {
		t.Errorf("only %d of the slices had a chunk", chunks)
	}
}

func TestConcatenatedEncodings(t *testing.T) {
	r := rand.New(rand.NewSource(86))
	for round := range 200 {
		var all []byte
		var written []api.Chunk
		for range r.Intn(20) {
			c := api.Chunk{Kind: byte(r.Intn(256)), Flags: byte(r.Intn(256)), Body: someBytes(r.Intn(40), int64(round))}
			written = append(written, c)
			all = append(all, chunk.Write(c)...)
		}
		for i, c := range written {
			isChunk(t, all, c.Kind, c.Flags, c.Body)
			_, n, _ := chunk.Read(all)
			all = all[n:]
			if i == len(written)-1 && len(all) != 0 {
				t.Fatalf("consequence: %d bytes are left after the last of %d chunks", len(all), len(written))
			}
		}
		isNone(t, all)
	}
}

// A quarter of a million chunks in one slice: none is left out, and none is read twice.
func TestManyConcatenatedEncodings(t *testing.T) {
	all := bytes.Repeat([]byte{9, 1, 0, 4}, 1<<18)
	count := 0
	for len(all) > 0 {
		c, n, e := chunk.Read(all)
		if e != api.OK || n != 4 || c.Kind != 9 || c.Flags != 1 || len(c.Body) != 0 {
			t.Fatalf("consequence: the chunk at %d: %v, %d, %d", count, c, n, e)
		}
		all = all[n:]
		count++
	}
	if count != 1<<18 {
		t.Errorf("consequence: %d chunks were read", count)
	}
}

func TestNilIsEmpty(t *testing.T) {
	for _, kind := range []uint8{0, 11, 255} {
		a, b := chunk.Write(api.Chunk{Kind: kind}), chunk.Write(api.Chunk{Kind: kind, Body: []byte{}})
		if !bytes.Equal(a, b) || !bytes.Equal(a, []byte{kind, 0, 0, 4}) {
			t.Errorf("R3: Write of kind %d with a nil body: %x, with an empty one: %x", kind, a, b)
		}
	}
	isNone(t, nil)
	isNone(t, []byte{})
}

// fill writes x to all bytes of b, those of its capacity too.
func fill(b []byte, x byte) {
	b = b[:cap(b)]
	for i := range b {
		b[i] = x
	}
}

func TestArgumentsStay(t *testing.T) {
	for n := range 40 {
		whole := bytes.Repeat([]byte{0xee}, 40+n)
		copy(whole[20:], someBytes(n, int64(n)))
		before := bytes.Clone(whole)
		chunk.Write(api.Chunk{Kind: 1, Flags: 2, Body: whole[20 : 20+n]})
		chunk.Read(whole[20 : 20+n])
		if !bytes.Equal(whole, before) {
			t.Fatalf("R3: a body of %d bytes, or the memory around it, has changed", n)
		}
		b := encoding(1, 2, before[20:20+n])
		whole = join(before[:20], b, before[:20])
		before = bytes.Clone(whole)
		chunk.Read(whole[20 : 20+len(b)])
		chunk.Read(whole[20 : 20+len(b)-1])
		if !bytes.Equal(whole, before) {
			t.Fatalf("R3: an encoding of a body of %d bytes, or the memory around it, has changed", n)
		}
	}
}

// A result in memory of its own is not touched by writing to the argument, nor the argument by writing to the result, up to the capacities of both.
func TestResultsAreNewMemory(t *testing.T) {
	for n := range 20 {
		body := make([]byte, n, n+20)
		copy(body, someBytes(n, int64(n)))
		want := encoding(1, 2, body)
		c := api.Chunk{Kind: 1, Flags: 2, Body: body}
		first, second := chunk.Write(c), chunk.Write(c)
		fill(second, 'x')
		if !bytes.Equal(first, want) || !bytes.Equal(body, want[4:4+n]) {
			t.Fatalf("R3: Write of %d bytes: a result shares memory", n)
		}
		fill(body, 'y')
		if !bytes.Equal(first, want) {
			t.Fatalf("R3: Write of %d bytes: the result changed with the argument", n)
		}
		b := join(want, []byte("more bytes"))
		one, _, _ := chunk.Read(b)
		other, _, _ := chunk.Read(b)
		fill(other.Body, 'x')
		if !bytes.Equal(one.Body, want[4:4+n]) || !bytes.Equal(b, join(want, []byte("more bytes"))) {
			t.Fatalf("R3: Read of a body of %d bytes: it shares memory", n)
		}
		fill(b, 'y')
		if !bytes.Equal(one.Body, want[4:4+n]) {
			t.Fatalf("R3: Read of a body of %d bytes: it changed with the argument", n)
		}
	}
}

// A call that kept what an earlier one was passed or returned would answer otherwise after those were changed, or after others.
func TestSameCallSameResult(t *testing.T) {
	body := someBytes(9, 87)
	want := encoding(1, 2, body)
	for range 3 {
		own := bytes.Clone(body)
		b := chunk.Write(api.Chunk{Kind: 1, Flags: 2, Body: own})
		if !bytes.Equal(b, want) {
			t.Fatalf("R3, R5: Write again: %x, not %x", b, want)
		}
		isChunk(t, b, 1, 2, body)
		c, _, _ := chunk.Read(b)
		for _, x := range [][]byte{own, b, c.Body} {
			fill(x, 'x')
		}
		chunk.Write(api.Chunk{Kind: 200, Flags: 100, Body: someBytes(50, 88)})
		chunk.Write(api.Chunk{Body: make([]byte, longest+1)})
		chunk.Read([]byte("\x0b\x00\x00\x03"))
		isChunk(t, want, 1, 2, body)
	}
}
