package bodies_test

import (
	"bytes"
	"encoding/binary"
	"math"
	"math/rand"
	"reflect"
	"testing"

	"fairlead/api"
	"fairlead/bodies"
)

var be = binary.BigEndian

func someBytes(n int, seed int64) []byte {
	b := make([]byte, n)
	rand.New(rand.NewSource(seed)).Read(b)
	return b
}

func join(parts ...[]byte) []byte {
	return bytes.Join(parts, nil)
}

// The model: what the chapter says about each chunk, word by word.

func dataChunk(d api.Data) api.Chunk {
	flags := 0
	if d.Unordered {
		flags += 4
	}
	if d.First {
		flags += 2
	}
	if d.Last {
		flags += 1
	}
	b := be.AppendUint32(nil, d.Tsn)
	b = be.AppendUint16(b, d.Stream)
	b = be.AppendUint16(b, d.Ssn)
	b = append(b, 0, 0, 0, 0)
	return api.Chunk{Kind: 0, Flags: uint8(flags), Body: append(b, d.Bytes...)}
}

func initChunk(kind uint8, i api.Init) api.Chunk {
	b := be.AppendUint32(nil, i.Tag)
	b = be.AppendUint32(b, i.Rwnd)
	b = be.AppendUint16(b, i.Out)
	b = be.AppendUint16(b, i.In)
	b = be.AppendUint32(b, i.Tsn)
	if kind == 2 {
		b = append(b, 0, 7)
		b = be.AppendUint16(b, uint16(4+len(i.Cookie)))
		b = append(b, i.Cookie...)
		for len(b)%4 != 0 {
			b = append(b, 0)
		}
	}
	return api.Chunk{Kind: kind, Body: b}
}

func sackChunk(s api.Sack) api.Chunk {
	b := be.AppendUint32(nil, s.Cum)
	b = be.AppendUint32(b, s.Rwnd)
	b = be.AppendUint16(b, uint16(len(s.Gaps)))
	b = be.AppendUint16(b, uint16(len(s.Dups)))
	for _, g := range s.Gaps {
		b = be.AppendUint16(b, g.From)
		b = be.AppendUint16(b, g.To)
	}
	for _, x := range s.Dups {
		b = be.AppendUint32(b, x)
	}
	return api.Chunk{Kind: 3, Body: b}
}

func forwardChunk(f api.Forward) api.Chunk {
	b := be.AppendUint32(nil, f.Cum)
	for _, s := range f.Skips {
		b = be.AppendUint16(b, s.Stream)
		b = be.AppendUint16(b, s.Ssn)
	}
	return api.Chunk{Kind: 192, Body: b}
}

func timeChunk(kind uint8, at int64) api.Chunk {
	return api.Chunk{Kind: kind, Body: be.AppendUint64([]byte{0, 1, 0, 12}, uint64(at))}
}

func cumChunk(cum uint32) api.Chunk {
	return api.Chunk{Kind: 7, Body: be.AppendUint32(nil, cum)}
}

// saysData and those like it judge a chunk by looking at each of its bytes.

func saysData(c api.Chunk) bool {
	return c.Kind == 0 && c.Flags < 8 && len(c.Body) > 12 && be.Uint32(c.Body[8:]) == 0
}

func saysInit(c api.Chunk) bool {
	b := c.Body
	if c.Flags != 0 || len(b) < 16 || be.Uint32(b) == 0 || be.Uint16(b[8:]) == 0 || be.Uint16(b[10:]) == 0 {
		return false
	}
	if c.Kind == 1 {
		return len(b) == 16
	}
	if c.Kind != 2 || len(b) < 20 || b[16] != 0 || b[17] != 7 {
		return false
	}
	length := int(be.Uint16(b[18:]))
	if length <= 4 || len(b) != 16+(length+3)/4*4 {
		return false
	}
	for _, x := range b[16+length:] {
		if x != 0 {
			return false
		}
	}
	return true
}

func saysSack(c api.Chunk) bool {
	b := c.Body
	if c.Kind != 3 || c.Flags != 0 || len(b) < 12 || len(b)%4 != 0 {
		return false
	}
	gaps, dups := int(be.Uint16(b[8:])), int(be.Uint16(b[10:]))
	rest := len(b)/4 - 3 - gaps - dups
	if rest < 0 || rest%65536 != 0 {
		return false
	}
	low := 2
	for k := range gaps {
		from, to := int(be.Uint16(b[12+4*k:])), int(be.Uint16(b[14+4*k:]))
		if from < low || from > to {
			return false
		}
		low = to + 2
	}
	return true
}

func saysForward(c api.Chunk) bool {
	return c.Kind == 192 && c.Flags == 0 && len(c.Body) >= 4 && len(c.Body)%4 == 0
}

func saysTime(c api.Chunk) bool {
	return (c.Kind == 4 || c.Kind == 5) && c.Flags == 0 && len(c.Body) == 12 && string(c.Body[:4]) == "\x00\x01\x00\x0c"
}

func saysCum(c api.Chunk) bool {
	return c.Kind == 7 && c.Flags == 0 && len(c.Body) == 4
}

// reader is a Get function of any value, with the chunk to which the model puts that value, and the model's judge.
type reader struct {
	name string
	get  func(api.Chunk) (any, api.Errno)
	put  func(kind uint8, value any) api.Chunk
	says func(api.Chunk) bool
	zero any
}

func anyOf[V any](get func(api.Chunk) (V, api.Errno)) func(api.Chunk) (any, api.Errno) {
	return func(c api.Chunk) (any, api.Errno) {
		v, e := get(c)
		return v, e
	}
}

func readers() []reader {
	return []reader{
		{"P9.1: GetData", anyOf(bodies.GetData), func(_ uint8, v any) api.Chunk { return dataChunk(v.(api.Data)) }, saysData, api.Data{}},
		{"P9.2: GetInit", anyOf(bodies.GetInit), func(kind uint8, v any) api.Chunk { return initChunk(kind, v.(api.Init)) }, saysInit, api.Init{}},
		{"P9.3: GetSack", anyOf(bodies.GetSack), func(_ uint8, v any) api.Chunk { return sackChunk(v.(api.Sack)) }, saysSack, api.Sack{}},
		{"P9.4: GetForward", anyOf(bodies.GetForward), func(_ uint8, v any) api.Chunk { return forwardChunk(v.(api.Forward)) }, saysForward, api.Forward{}},
		{"P9.5: GetTime", anyOf(bodies.GetTime), func(kind uint8, v any) api.Chunk { return timeChunk(kind, v.(int64)) }, saysTime, int64(0)},
		{"P9.6: GetCum", anyOf(bodies.GetCum), func(_ uint8, v any) api.Chunk { return cumChunk(v.(uint32)) }, saysCum, uint32(0)},
	}
}

func same(c, d api.Chunk) bool {
	return c.Kind == d.Kind && c.Flags == d.Flags && bytes.Equal(c.Body, d.Body)
}

// isEmpty says that v is the zero value but for slices, which may be empty instead of nil.
func isEmpty(v, zero any) bool {
	switch x := v.(type) {
	case api.Data:
		return len(x.Bytes) == 0 && reflect.DeepEqual(api.Data{Tsn: x.Tsn, Stream: x.Stream, Ssn: x.Ssn, Unordered: x.Unordered, First: x.First, Last: x.Last}, zero)
	case api.Init:
		return len(x.Cookie) == 0 && reflect.DeepEqual(api.Init{Tag: x.Tag, Rwnd: x.Rwnd, Out: x.Out, In: x.In, Tsn: x.Tsn}, zero)
	case api.Sack:
		return len(x.Gaps) == 0 && len(x.Dups) == 0 && x.Cum == 0 && x.Rwnd == 0
	case api.Forward:
		return len(x.Skips) == 0 && x.Cum == 0
	}
	return v == zero
}

// judge passes c to all Get functions, of which those that the model names must return what is encoded as c, and the others nothing. It returns how many these are.
func judge(t *testing.T, c api.Chunk) int {
	t.Helper()
	accepted := 0
	for _, r := range readers() {
		v, e := r.get(c)
		if !r.says(c) {
			if e != api.ErrForm || !isEmpty(v, r.zero) {
				t.Fatalf("%s of kind %d, flags %d, %d bytes, %.40x: %v, %d; want nothing, ErrForm", r.name, c.Kind, c.Flags, len(c.Body), c.Body, v, e)
			}
			continue
		}
		accepted++
		if e != api.OK || !same(r.put(c.Kind, v), c) {
			t.Fatalf("%s of kind %d, flags %d, %d bytes, %.40x: %.100v, %d", r.name, c.Kind, c.Flags, len(c.Body), c.Body, v, e)
		}
	}
	if accepted > 1 {
		t.Fatalf("consequence: kind %d, flags %d, %x is accepted by %d Get functions", c.Kind, c.Flags, c.Body, accepted)
	}
	return accepted
}

func isRead(t *testing.T, c api.Chunk) {
	t.Helper()
	if judge(t, c) != 1 {
		t.Fatalf("the model accepts kind %d, flags %d, %x not once", c.Kind, c.Flags, c.Body)
	}
}

func isNone(t *testing.T, c api.Chunk) {
	t.Helper()
	if judge(t, c) != 0 {
		t.Fatalf("the model accepts kind %d, flags %d, %x", c.Kind, c.Flags, c.Body)
	}
}

func isChunk(t *testing.T, name string, c, want api.Chunk) {
	t.Helper()
	if !same(c, want) {
		t.Fatalf("%s: kind %d, flags %d, %d bytes, %.60x; want kind %d, flags %d, %d bytes, %.60x",
			name, c.Kind, c.Flags, len(c.Body), c.Body, want.Kind, want.Flags, len(want.Body), want.Body)
	}
}

func TestExamples(t *testing.T) {
	isChunk(t, "P9.1: PutData", bodies.PutData(api.Data{Tsn: 1, Stream: 2, Ssn: 3, First: true, Last: true, Bytes: []byte{255}}),
		api.Chunk{Kind: 0, Flags: 3, Body: []byte("\x00\x00\x00\x01\x00\x02\x00\x03\x00\x00\x00\x00\xff")})
	sack := bodies.PutSack(api.Sack{Cum: 5, Rwnd: 6, Gaps: []api.Gap{{From: 2, To: 3}}, Dups: []uint32{7}})
	text := "\x00\x00\x00\x05\x00\x00\x00\x06\x00\x01\x00\x01\x00\x02\x00\x03\x00\x00\x00\x07"
	isChunk(t, "P9.3: PutSack", sack, api.Chunk{Kind: 3, Body: []byte(text)})
	isRead(t, sack)
	isNone(t, api.Chunk{Kind: 3, Body: []byte("\x00\x00\x00\x05\x00\x00\x00\x06\x00\x01\x00\x01\x00\x01\x00\x03\x00\x00\x00\x07")})
	isNone(t, api.Chunk{Kind: 3, Body: []byte("\x00\x00\x00\x05\x00\x00\x00\x06\x00\x01\x00\x01\x00\x03\x00\x02\x00\x00\x00\x07")})
	isNone(t, api.Chunk{Kind: 3, Flags: 1, Body: []byte(text)})
	isNone(t, api.Chunk{Kind: 3, Body: []byte(text[:19])})
	isChunk(t, "P9.5: PutTime", bodies.PutTime(api.KindBeat, -1),
		api.Chunk{Kind: 4, Body: []byte("\x00\x01\x00\x0c\xff\xff\xff\xff\xff\xff\xff\xff")})
	if _, e := bodies.GetInit(bodies.PutInit(api.KindInit, api.Init{Rwnd: 1, Out: 1, In: 1, Tsn: 1})); e != api.ErrForm {
		t.Errorf("P9.2: GetInit of Tag 0: %d", e)
	}
	if _, e := bodies.GetData(api.Chunk{Body: make([]byte, 12)}); e != api.ErrForm {
		t.Errorf("P9.1: GetData of a body of 12 bytes: %d", e)
	}
	isChunk(t, "P9.2: PutInit", bodies.PutInit(api.KindInitAck, api.Init{Tag: 0x01020304, Rwnd: 0x05060708, Out: 0x090a, In: 0x0b0c, Tsn: 0x0d0e0f10, Cookie: []byte("abcde")}),
		api.Chunk{Kind: 2, Body: []byte("\x01\x02\x03\x04\x05\x06\x07\x08\x09\x0a\x0b\x0c\x0d\x0e\x0f\x10\x00\x07\x00\x09abcde\x00\x00\x00")})
	isChunk(t, "P9.4: PutForward", bodies.PutForward(api.Forward{Cum: 0x01020304, Skips: []api.Skip{{Stream: 0x0506, Ssn: 0x0708}, {Stream: 0x090a, Ssn: 0x0b0c}}}),
		api.Chunk{Kind: 192, Body: []byte("\x01\x02\x03\x04\x05\x06\x07\x08\x09\x0a\x0b\x0c")})
	isChunk(t, "P9.6: PutCum", bodies.PutCum(0x01020304), api.Chunk{Kind: 7, Body: []byte("\x01\x02\x03\x04")})
}

var words = []uint32{0, 1, 2, 255, 256, 65535, 65536, 1<<24 - 1, 1 << 24, 1<<31 - 1, 1 << 31, 1<<32 - 2, 1<<32 - 1, 0x01020304}
var halves = []uint16{0, 1, 2, 127, 128, 255, 256, 257, 32767, 32768, 65534, 65535, 0x0102}

func TestData(t *testing.T) {
	for k, tsn := range words {
		for flags := range 8 {
			for _, n := range []int{0, 1, 2, 3, 4, 5, 100, 65519, 65520, 70000} {
				d := api.Data{Tsn: tsn, Stream: halves[k%len(halves)], Ssn: halves[(k+5)%len(halves)], Bytes: someBytes(n, int64(k))}
				d.Unordered, d.First, d.Last = flags&4 != 0, flags&2 != 0, flags&1 != 0
				c := bodies.PutData(d)
				isChunk(t, "P9.1: PutData", c, dataChunk(d))
				got, e := bodies.GetData(c)
				if n == 0 {
					isNone(t, c)
				} else if e != api.OK || !reflect.DeepEqual(got, d) {
					t.Fatalf("P9.1: GetData of what PutData made of %.60v: %.60v, %d", d, got, e)
				}
			}
		}
	}
}

func TestDataOfOtherChunks(t *testing.T) {
	for flags := range 256 {
		judge(t, api.Chunk{Flags: uint8(flags), Body: append(make([]byte, 12), 5)})
		judge(t, api.Chunk{Flags: uint8(flags), Body: make([]byte, 12)})
	}
	for n := range 40 {
		judge(t, api.Chunk{Flags: 3, Body: make([]byte, n)})
		judge(t, api.Chunk{Flags: 3, Body: bytes.Repeat([]byte{0xff}, n)})
	}
	for at := range 20 { // only the four bytes before the user's may not differ from 0
		for x := 1; x < 256; x++ {
			b := make([]byte, 20)
			b[at] = byte(x)
			if judge(t, api.Chunk{Body: b}) != 1 != (at >= 8 && at < 12) {
				t.Fatalf("P9.1: GetData of %x", b)
			}
		}
	}
}

func TestInit(t *testing.T) {
	for k, tag := range words {
		for l, out := range halves {
			for m, in := range halves {
				i := api.Init{Tag: tag, Rwnd: words[(k+l)%len(words)], Out: out, In: in, Tsn: words[(k+m+3)%len(words)]}
				isValid := tag != 0 && out != 0 && in != 0
				for _, cookie := range [][]byte{nil, {0}, {1, 2, 3}, {1, 2, 3, 4}} {
					for kind := range uint8(6) {
						i.Cookie = cookie
						c := bodies.PutInit(kind, i)
						isChunk(t, "P9.2: PutInit", c, initChunk(kind, i))
						want := i
						if kind != api.KindInitAck {
							want.Cookie = nil
						}
						got, e := bodies.GetInit(c)
						if isValid && (kind == api.KindInit || kind == api.KindInitAck && cookie != nil) {
							if len(got.Cookie) == 0 {
								got.Cookie = nil
							}
							if e != api.OK || !reflect.DeepEqual(got, want) {
								t.Fatalf("P9.2: GetInit of what PutInit made of %d, %v: %v, %d", kind, i, got, e)
							}
						} else if e != api.ErrForm || !isEmpty(got, api.Init{}) {
							t.Fatalf("P9.2: GetInit of what PutInit made of %d, %v: %v, %d; want nothing, ErrForm", kind, i, got, e)
						}
					}
				}
			}
		}
	}
}

func TestInitOfEveryKind(t *testing.T) {
	for kind := range 256 {
		for _, cookie := range [][]byte{nil, []byte("x"), []byte("1234567")} {
			i := api.Init{Tag: 1, Rwnd: 2, Out: 3, In: 4, Tsn: 5, Cookie: cookie}
			c := bodies.PutInit(uint8(kind), i)
			isChunk(t, "P9.2: PutInit", c, initChunk(uint8(kind), i))
			judge(t, c)
			c.Kind ^= 3 // an INIT with what only an INIT-ACK has, and the other way round
			judge(t, c)
		}
	}
}

func TestInitCookieLengths(t *testing.T) {
	i := api.Init{Tag: 1, Rwnd: 2, Out: 3, In: 4, Tsn: 5}
	var lengths []int
	for n := range 80 {
		lengths = append(lengths, n)
	}
	lengths = append(lengths, 250, 251, 252, 253, 1000, 32763, 32764, 65530, 65531, 65532, 65533, 65534, 65535, 65536, 65537, 65540, 131067, 131068, 131072)
	for _, n := range lengths {
		i.Cookie = someBytes(n, int64(n))
		c := bodies.PutInit(api.KindInitAck, i)
		isChunk(t, "P9.2: PutInit", c, initChunk(2, i))
		if n == 0 || n > 65531 {
			isNone(t, c)
		} else {
			isRead(t, c)
		}
		d := bodies.PutInit(api.KindInit, i)
		isChunk(t, "P9.2: PutInit", d, initChunk(1, i))
		isRead(t, d)
	}
}

// Each length that a parameter may tell, in bodies of about its size and of others.
func TestInitLengthFields(t *testing.T) {
	base := initChunk(2, api.Init{Tag: 1, Out: 3, In: 4, Cookie: []byte{1}}).Body[:18]
	for size := range 50 {
		b := append(bytes.Clone(base), make([]byte, size)...)
		for length := range 60 {
			if size >= 2 {
				be.PutUint16(b[18:], uint16(length))
			}
			judge(t, api.Chunk{Kind: 2, Body: b})
		}
		for _, length := range []int{255, 256, 1024, 65533, 65534, 65535} {
			if size >= 2 {
				be.PutUint16(b[18:], uint16(length))
			}
			isNone(t, api.Chunk{Kind: 2, Body: b})
		}
	}
	for n := 1; n < 12; n++ {
		whole := initChunk(2, api.Init{Tag: 1, Out: 3, In: 4, Cookie: bytes.Repeat([]byte{0xff}, n)}).Body
		for at := range whole {
			for x := range 256 {
				b := bytes.Clone(whole)
				b[at] = byte(x)
				judge(t, api.Chunk{Kind: 2, Body: b})
				isNone(t, api.Chunk{Kind: 1, Body: b})
			}
		}
	}
}

func gapsAreRead(t *testing.T, gaps ...api.Gap) {
	t.Helper()
	s := api.Sack{Cum: 9, Rwnd: 8, Gaps: gaps}
	c := bodies.PutSack(s)
	isChunk(t, "P9.3: PutSack", c, sackChunk(s))
	isValid, low := true, 2
	for _, g := range gaps {
		isValid = isValid && int(g.From) >= low && g.To >= g.From
		low = int(g.To) + 2
	}
	got, e := bodies.GetSack(c)
	if !isValid {
		isNone(t, c)
	} else if e != api.OK || got.Cum != 9 || got.Rwnd != 8 || len(got.Dups) != 0 || len(got.Gaps) != len(gaps) {
		t.Fatalf("P9.3: GetSack with the gaps %v: %v, %d", gaps, got, e)
	}
	for k := range got.Gaps {
		if got.Gaps[k] != gaps[k] {
			t.Fatalf("P9.3: GetSack with the gaps %v: %v", gaps, got)
		}
	}
}

func TestSackGaps(t *testing.T) {
	edges := append(halves, 3, 4, 5, 6, 65533, 65532)
	gapsAreRead(t)
	for _, from := range edges {
		for _, to := range edges {
			gapsAreRead(t, api.Gap{From: from, To: to})
			for _, from2 := range edges {
				for _, to2 := range edges {
					gapsAreRead(t, api.Gap{From: from, To: to}, api.Gap{From: from2, To: to2})
				}
			}
		}
	}
	for k := range uint16(1 << 12) { // four numbers below 8: a gap of 2 to 2, then two more
		gapsAreRead(t, api.Gap{From: 2, To: 2}, api.Gap{From: 2 + k&7, To: 2 + k>>3&7}, api.Gap{From: 2 + k>>6&7, To: 2 + k>>9&7})
	}
	var most []api.Gap
	for from := 2; from < 1<<16; from += 2 {
		most = append(most, api.Gap{From: uint16(from), To: uint16(from)})
	}
	gapsAreRead(t, most...)
	gapsAreRead(t, append(most, api.Gap{From: 65535, To: 65535})...)
	gapsAreRead(t, append(most, api.Gap{From: 0, To: 0})...)
	gapsAreRead(t, append(most[:len(most)-1], api.Gap{From: 65535, To: 65535})...)
	gapsAreRead(t, append(most[:100], api.Gap{From: 202, To: 65535})...)
}

// Each pair of small counts over each small number of entries: of these only the counts that make up the entries are right.
func TestSackCounts(t *testing.T) {
	for size := range 40 {
		for gaps := range 10 {
			for dups := range 10 {
				b := make([]byte, size)
				for k := 12; k+4 <= size; k += 4 {
					b[k+1], b[k+3] = byte(k/2), byte(k/2)
				}
				if size >= 12 {
					b[9], b[11] = byte(gaps), byte(dups)
				}
				got := judge(t, api.Chunk{Kind: 3, Body: b})
				if (got == 1) != (size%4 == 0 && size >= 12 && gaps+dups == (size-12)/4) {
					t.Fatalf("P9.3: GetSack of %d bytes with %d gaps, %d duplicates: %d", size, gaps, dups, got)
				}
			}
		}
	}
	b := make([]byte, 20)
	for count := range 1 << 16 {
		be.PutUint16(b[8:], uint16(count))
		be.PutUint16(b[10:], 0)
		judge(t, api.Chunk{Kind: 3, Body: b})
		be.PutUint16(b[8:], 0)
		be.PutUint16(b[10:], uint16(count))
		judge(t, api.Chunk{Kind: 3, Body: b})
	}
}

// More entries than a count can tell are written, and its low-order bits say how many; such gaps are not valid, such duplicates are.
func TestSackOfLongLists(t *testing.T) {
	for _, n := range []int{65534, 65535, 65536, 65537, 131071, 131072, 131073} {
		dups := make([]uint32, n)
		for k := range dups {
			dups[k] = uint32(k * 77777)
		}
		for _, gaps := range [][]api.Gap{nil, {{From: 2, To: 3}, {From: 5, To: 7}}} {
			s := api.Sack{Cum: 1, Rwnd: 2, Gaps: gaps, Dups: dups}
			c := bodies.PutSack(s)
			isChunk(t, "P9.3: PutSack", c, sackChunk(s))
			got, e := bodies.GetSack(c)
			if e != api.OK || got.Cum != 1 || got.Rwnd != 2 || len(got.Gaps) != len(gaps) || !reflect.DeepEqual(got.Dups, dups) {
				t.Fatalf("P9.3: GetSack of %d duplicates: %d, %d of them", n, e, len(got.Dups))
			}
			for _, more := range []int{1, 2, 3, 4, 8} {
				isNone(t, api.Chunk{Kind: 3, Body: append(bytes.Clone(c.Body), make([]byte, more)...)})
				isNone(t, api.Chunk{Kind: 3, Body: c.Body[:len(c.Body)-more]})
			}
		}
		many := make([]api.Gap, n)
		for k := range many {
			many[k] = api.Gap{From: uint16(2*k + 2), To: uint16(2*k + 2)}
		}
		s := api.Sack{Gaps: many, Dups: []uint32{4}}
		c := bodies.PutSack(s)
		isChunk(t, "P9.3: PutSack", c, sackChunk(s))
		judge(t, c)
		if got, e := bodies.GetSack(bodies.PutSack(api.Sack{Gaps: many[:30000]})); e != api.OK || !reflect.DeepEqual(got.Gaps, many[:30000]) {
			t.Fatalf("P9.3: GetSack of 30000 gaps: %d, %d of them", e, len(got.Gaps))
		}
	}
}

func TestForward(t *testing.T) {
	for k, cum := range words {
		for n := range 20 {
			f := api.Forward{Cum: cum}
			for i := range n {
				f.Skips = append(f.Skips, api.Skip{Stream: halves[(k+i)%len(halves)], Ssn: halves[(k+i*i+2)%len(halves)]})
			}
			c := bodies.PutForward(f)
			isChunk(t, "P9.4: PutForward", c, forwardChunk(f))
			if got, e := bodies.GetForward(c); e != api.OK || got.Cum != cum || len(got.Skips) != n || n > 0 && !reflect.DeepEqual(got.Skips, f.Skips) {
				t.Fatalf("P9.4: GetForward of what PutForward made of %v: %v, %d", f, got, e)
			}
		}
	}
	for n := range 60 {
		c := api.Chunk{Kind: 192, Body: someBytes(n, int64(n))}
		if (judge(t, c) == 1) != (n >= 4 && n%4 == 0) {
			t.Fatalf("P9.4: GetForward of %d bytes", n)
		}
	}
	many := api.Forward{Cum: 1, Skips: make([]api.Skip, 100000)}
	many.Skips[99999].Ssn = 5
	c := bodies.PutForward(many)
	isChunk(t, "P9.4: PutForward", c, forwardChunk(many))
	isRead(t, c)
}

func TestTime(t *testing.T) {
	times := []int64{0, 1, -1, 2, 255, 256, 65535, 65536, 1<<32 - 1, 1 << 32, 1 << 61, math.MaxInt64, math.MinInt64, -1 << 32, 0x0102030405060708}
	for _, at := range times {
		for kind := range 256 {
			c := bodies.PutTime(uint8(kind), at)
			isChunk(t, "P9.5: PutTime", c, timeChunk(uint8(kind), at))
			got, e := bodies.GetTime(c)
			if kind == 4 || kind == 5 {
				if e != api.OK || got != at {
					t.Fatalf("P9.5: GetTime of what PutTime made of %d, %d: %d, %d", kind, at, got, e)
				}
			} else if e != api.ErrForm || got != 0 {
				t.Fatalf("P9.5: GetTime of what PutTime made of %d, %d: %d, %d; want 0, ErrForm", kind, at, got, e)
			}
		}
	}
}

func TestCum(t *testing.T) {
	for _, cum := range words {
		c := bodies.PutCum(cum)
		isChunk(t, "P9.6: PutCum", c, cumChunk(cum))
		if got, e := bodies.GetCum(c); e != api.OK || got != cum {
			t.Fatalf("P9.6: GetCum of what PutCum made of %d: %d, %d", cum, got, e)
		}
	}
	for n := range 12 {
		if c := (api.Chunk{Kind: 7, Body: bytes.Repeat([]byte{1}, n)}); (judge(t, c) == 1) != (n == 4) {
			t.Fatalf("P9.6: GetCum of %d bytes", n)
		}
	}
}

// some has one chunk at least of each kind that a Get function reads.
func some() []api.Chunk {
	return []api.Chunk{
		dataChunk(api.Data{Tsn: 1, Stream: 2, Ssn: 3, First: true, Bytes: []byte("abc")}),
		dataChunk(api.Data{Unordered: true, Last: true, Bytes: []byte{0}}),
		initChunk(1, api.Init{Tag: 1, Rwnd: 2, Out: 3, In: 4, Tsn: 5}),
		initChunk(2, api.Init{Tag: 1, Rwnd: 2, Out: 3, In: 4, Tsn: 5, Cookie: []byte("cookie")}),
		initChunk(2, api.Init{Tag: 1, Rwnd: 2, Out: 3, In: 4, Tsn: 5, Cookie: []byte("biscuits")}),
		sackChunk(api.Sack{Cum: 1}),
		sackChunk(api.Sack{Cum: 1, Rwnd: 5, Gaps: []api.Gap{{From: 2, To: 3}, {From: 5, To: 5}}, Dups: []uint32{7, 6}}),
		forwardChunk(api.Forward{Cum: 1}),
		forwardChunk(api.Forward{Cum: 1, Skips: []api.Skip{{Stream: 1, Ssn: 2}, {Stream: 1, Ssn: 2}}}),
		timeChunk(4, -5),
		timeChunk(5, 5),
		cumChunk(9),
	}
}

// Every kind, every byte of flags, every length and every changed byte of a chunk that is right.
func TestChangedChunks(t *testing.T) {
	for _, c := range some() {
		isRead(t, c)
		for x := range 256 {
			judge(t, api.Chunk{Kind: uint8(x), Flags: c.Flags, Body: c.Body})
			judge(t, api.Chunk{Kind: c.Kind, Flags: uint8(x), Body: c.Body})
			for at := range c.Body {
				b := bytes.Clone(c.Body)
				b[at] = byte(x)
				judge(t, api.Chunk{Kind: c.Kind, Flags: c.Flags, Body: b})
			}
		}
		for n := range c.Body { // what lies within the capacity is not a part of the body
			judge(t, api.Chunk{Kind: c.Kind, Flags: c.Flags, Body: c.Body[:n]})
			judge(t, api.Chunk{Kind: c.Kind, Flags: c.Flags, Body: bytes.Clone(c.Body[:n])})
		}
		for n := range 20 {
			judge(t, api.Chunk{Kind: c.Kind, Flags: c.Flags, Body: join(c.Body, make([]byte, n))})
			judge(t, api.Chunk{Kind: c.Kind, Flags: c.Flags, Body: join(c.Body, someBytes(n, int64(n)))})
		}
	}
}

func TestEveryKindFlagsAndLength(t *testing.T) {
	for kind := range 256 {
		for _, flags := range []uint8{0, 1, 2, 3, 4, 7, 8, 128, 255} {
			for n := range 33 {
				for _, x := range []byte{0, 1, 255} {
					judge(t, api.Chunk{Kind: uint8(kind), Flags: flags, Body: bytes.Repeat([]byte{x}, n)})
				}
			}
		}
	}
	judge(t, api.Chunk{})
	for kind := range 256 {
		isNone(t, api.Chunk{Kind: uint8(kind)})
		isNone(t, api.Chunk{Kind: uint8(kind), Body: []byte{}})
	}
}

func TestRandomChunks(t *testing.T) {
	r := rand.New(rand.NewSource(91))
	all, read := some(), 0
	for range 200000 {
		c := all[r.Intn(len(all))]
		b := bytes.Clone(c.Body)
		for range r.Intn(3) {
			b[r.Intn(len(b))] = byte(r.Intn(8))
		}
		switch r.Intn(4) {
		case 0:
			b = b[:r.Intn(len(b)+1)]
		case 1:
			b = append(b, make([]byte, 4*r.Intn(3))...)
		}
		read += judge(t, api.Chunk{Kind: c.Kind, Flags: c.Flags, Body: b})
	}
	if read < 20000 {
		t.Errorf("only %d of the chunks were accepted", read)
	}
}

// What a Get function returns is put as the same chunk again, by the project's own functions.
func TestPutReproducesWhatGetRead(t *testing.T) {
	for _, c := range some() {
		var again []api.Chunk
		if d, e := bodies.GetData(c); e == api.OK {
			again = append(again, bodies.PutData(d))
		}
		if i, e := bodies.GetInit(c); e == api.OK {
			again = append(again, bodies.PutInit(c.Kind, i))
		}
		if s, e := bodies.GetSack(c); e == api.OK {
			again = append(again, bodies.PutSack(s))
		}
		if f, e := bodies.GetForward(c); e == api.OK {
			again = append(again, bodies.PutForward(f))
		}
		if at, e := bodies.GetTime(c); e == api.OK {
			again = append(again, bodies.PutTime(c.Kind, at))
		}
		if cum, e := bodies.GetCum(c); e == api.OK {
			again = append(again, bodies.PutCum(cum))
		}
		if len(again) != 1 || !same(again[0], c) {
			t.Errorf("consequence: %v is put again as %v", c, again)
		}
	}
}

func TestNilIsEmpty(t *testing.T) {
	isChunk(t, "R3: PutData", bodies.PutData(api.Data{Bytes: []byte{}}), bodies.PutData(api.Data{}))
	for kind := range uint8(4) {
		isChunk(t, "R3: PutInit", bodies.PutInit(kind, api.Init{Cookie: []byte{}}), bodies.PutInit(kind, api.Init{}))
	}
	isChunk(t, "R3: PutSack", bodies.PutSack(api.Sack{Gaps: []api.Gap{}, Dups: []uint32{}}), bodies.PutSack(api.Sack{}))
	isChunk(t, "R3: PutForward", bodies.PutForward(api.Forward{Skips: []api.Skip{}}), bodies.PutForward(api.Forward{}))
}

// fill writes x to all elements of l, those of its capacity too.
func fill[E any](l []E, x E) {
	l = l[:cap(l)]
	for i := range l {
		l[i] = x
	}
}

// A value is put from within longer slices, of which nothing changes, and the chunk does not change with them.
func TestPutLeavesItsArguments(t *testing.T) {
	for n := range 9 {
		whole := someBytes(30, int64(n))
		before := bytes.Clone(whole)
		d := api.Data{Tsn: 5, Bytes: whole[10 : 10+n]}
		i := api.Init{Tag: 1, Out: 1, In: 1, Cookie: whole[10 : 10+n]}
		wantData, wantInit := dataChunk(d), initChunk(2, i)
		data, init, other := bodies.PutData(d), bodies.PutInit(2, i), bodies.PutInit(2, i)
		fill(other.Body, 'x')
		other = bodies.PutData(d)
		fill(other.Body, 'x')
		if !bytes.Equal(whole, before) {
			t.Fatalf("R3: putting %d bytes, or writing to what it returned, changed the memory around them", n)
		}
		fill(whole, 'y')
		isChunk(t, "R3: PutData", data, wantData)
		isChunk(t, "R3: PutInit", init, wantInit)

		gaps, dups, skips := make([]api.Gap, 20), make([]uint32, 20), make([]api.Skip, 20)
		fill(gaps, api.Gap{From: 3, To: 4})
		fill(dups, 5)
		fill(skips, api.Skip{Stream: 6, Ssn: 7})
		s := api.Sack{Gaps: gaps[5 : 5+n], Dups: dups[4 : 4+n]}
		f := api.Forward{Skips: skips[3 : 3+n]}
		wantSack, wantForward := sackChunk(s), forwardChunk(f)
		sack, forward := bodies.PutSack(s), bodies.PutForward(f)
		for k := range 20 {
			if gaps[k] != (api.Gap{From: 3, To: 4}) || dups[k] != 5 || skips[k] != (api.Skip{Stream: 6, Ssn: 7}) {
				t.Fatalf("R3: putting %d entries changed the memory around them", n)
			}
		}
		fill(gaps, api.Gap{})
		fill(dups, 0)
		fill(skips, api.Skip{})
		isChunk(t, "R3: PutSack", sack, wantSack)
		isChunk(t, "R3: PutForward", forward, wantForward)
	}
}

// A chunk is read from within a longer slice, of which nothing changes, and each result is memory of its own.
func TestGetLeavesItsArguments(t *testing.T) {
	for _, c := range some() {
		for _, r := range readers() {
			whole := join([]byte("before"), c.Body, []byte("and after"))
			own := api.Chunk{Kind: c.Kind, Flags: c.Flags, Body: whole[6 : 6+len(c.Body)]}
			one, e := r.get(own)
			other, _ := r.get(own)
			overwrite(other)
			if !bytes.Equal(whole, join([]byte("before"), c.Body, []byte("and after"))) {
				t.Fatalf("R3: %s, or writing to what it returned, changed its argument", r.name)
			}
			fill(whole, 'x')
			if e == api.OK && !same(r.put(c.Kind, one), c) {
				t.Fatalf("R3: what %s returned changed with its argument, or with another result", r.name)
			}
		}
	}
}

// overwrite writes to the slices of v.
func overwrite(v any) {
	switch x := v.(type) {
	case api.Data:
		fill(x.Bytes, 'z')
	case api.Init:
		fill(x.Cookie, 'z')
	case api.Sack:
		fill(x.Gaps, api.Gap{From: 1, To: 1})
		fill(x.Dups, 99)
	case api.Forward:
		fill(x.Skips, api.Skip{Stream: 88, Ssn: 88})
	}
}

// A call that kept what an earlier one was passed or returned would answer otherwise after others.
func TestSameCallSameResult(t *testing.T) {
	for range 3 {
		for _, c := range some() {
			isRead(t, c)
			c.Flags ^= 0x80
			isNone(t, c)
		}
		d := api.Data{Tsn: 1, Bytes: []byte("xyz")}
		isChunk(t, "R5: PutData", bodies.PutData(d), dataChunk(d))
		s := api.Sack{Cum: 1, Gaps: []api.Gap{{From: 2, To: 2}}}
		isChunk(t, "R5: PutSack", bodies.PutSack(s), sackChunk(s))
		isChunk(t, "R5: PutSack", bodies.PutSack(api.Sack{}), sackChunk(api.Sack{}))
	}
}
