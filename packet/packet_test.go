package packet_test

import (
	"bytes"
	"encoding/binary"
	"hash/crc32"
	"math"
	"math/rand"
	"testing"

	"fairlead/api"
	"fairlead/packet"
)

var be = binary.BigEndian

// longest is the length of the longest body that a chunk may have.
const longest = 65531

func someBytes(n int, seed int64) []byte {
	b := make([]byte, n)
	rand.New(rand.NewSource(seed)).Read(b)
	return b
}

func join(parts ...[]byte) []byte {
	return bytes.Join(parts, nil)
}

func of(tag uint32, chunks ...api.Chunk) api.Packet {
	return api.Packet{Tag: tag, Chunks: chunks}
}

func bodied(kind uint8, n int) api.Chunk {
	return api.Chunk{Kind: kind, Flags: 3, Body: someBytes(n, int64(n))}
}

// The model: what the chapter says, word by word.

func mustBeAlone(kind uint8) bool {
	return kind == 1 || kind == 2 || kind == 14
}

func canShare(chunks []api.Chunk) bool {
	alone, long := 0, 0
	for _, c := range chunks {
		if mustBeAlone(c.Kind) {
			alone++
		}
		if len(c.Body) > longest {
			long++
		}
	}
	return len(chunks) >= 1 && long == 0 && (alone == 0 || len(chunks) == 1)
}

// sealed returns a copy of b with the right checksum in its place; b has at least 12 bytes.
func sealed(b []byte) []byte {
	c := bytes.Clone(b)
	clear(c[8:12])
	be.PutUint32(c[8:], crc32.Checksum(c, crc32.MakeTable(crc32.Castagnoli)))
	return c
}

func chunkBytes(c api.Chunk) []byte {
	b := be.AppendUint16([]byte{c.Kind, c.Flags}, uint16(4+len(c.Body)))
	b = append(b, c.Body...)
	for len(b)%4 != 0 {
		b = append(b, 0)
	}
	return b
}

// encoding returns the encoding of p, whether or not its chunks can share a packet.
func encoding(p api.Packet) []byte {
	b := []byte{0x13, 0x88, 0x13, 0x88}
	b = be.AppendUint32(b, p.Tag)
	b = append(b, 0, 0, 0, 0)
	for _, c := range p.Chunks {
		b = append(b, chunkBytes(c)...)
	}
	return sealed(b)
}

// splits says into how many chunks b can be cut, and whether these can share a packet. It looks at each byte but for those of the bodies.
func splits(b []byte) (count int, ok bool) {
	alone := false
	for len(b) > 0 {
		if len(b) < 4 {
			return 0, false
		}
		length := int(be.Uint16(b[2:]))
		whole := (length + 3) / 4 * 4
		if length < 4 || whole > len(b) || !bytes.Equal(b[length:whole], make([]byte, whole-length)) {
			return 0, false
		}
		alone = alone || mustBeAlone(b[0])
		b = b[whole:]
		count++
	}
	return count, count == 1 || count > 1 && !alone
}

// judge ends the test unless Read of b returns what the model says, and returns its error.
func judge(t *testing.T, b []byte) api.Errno {
	t.Helper()
	want, count := api.OK, 0
	if len(b) < 12 {
		want = api.ErrForm
	} else if !bytes.Equal(sealed(b), b) {
		want = api.ErrSum
	} else {
		n, ok := splits(b[12:])
		count = n
		if !ok || string(b[:4]) != "\x13\x88\x13\x88" {
			want = api.ErrForm
		}
	}
	p, e := packet.Read(b)
	if e != want {
		t.Fatalf("P10.4: Read of %d bytes, %.40x: %d; want %d", len(b), b, e, want)
	}
	if e != api.OK {
		if p.Tag != 0 || len(p.Chunks) != 0 {
			t.Fatalf("R2: Read of %d bytes, %.40x: %d, and the tag %d with %d chunks", len(b), b, e, p.Tag, len(p.Chunks))
		}
		return e
	}
	if len(p.Chunks) != count || !bytes.Equal(encoding(p), b) {
		t.Fatalf("P10.4: Read of %d bytes, %.40x: the tag %d with %d chunks, which is encoded otherwise", len(b), b, p.Tag, len(p.Chunks))
	}
	if again := packet.Write(p); !bytes.Equal(again, b) {
		t.Fatalf("consequence: Read of %d bytes, %.40x, and Write of that: %d bytes, %.40x", len(b), b, len(again), again)
	}
	return e
}

func isRead(t *testing.T, b []byte) {
	t.Helper()
	if e := judge(t, b); e != api.OK {
		t.Fatalf("the model has %d for %d bytes, %.40x; want OK", e, len(b), b)
	}
}

func isRefused(t *testing.T, b []byte, want api.Errno) {
	t.Helper()
	if e := judge(t, b); e != want {
		t.Fatalf("the model has %d for %d bytes, %.40x; want %d", e, len(b), b, want)
	}
}

// isWritten ends the test unless Size and Write answer for p what the model says, and Read returns p.
func isWritten(t *testing.T, p api.Packet) {
	t.Helper()
	want := encoding(p)
	if n := packet.Size(p); n != len(want) {
		t.Fatalf("P10.1: Size of %d chunks: %d; want %d", len(p.Chunks), n, len(want))
	}
	b := packet.Write(p)
	if !canShare(p.Chunks) {
		if len(b) != 0 {
			t.Fatalf("P10.3: Write of %d chunks that cannot share a packet: %d bytes", len(p.Chunks), len(b))
		}
		return
	}
	if !bytes.Equal(b, want) {
		t.Fatalf("P10.3: Write of the tag %d with %d chunks: %d bytes, %.60x; want %d bytes, %.60x", p.Tag, len(p.Chunks), len(b), b, len(want), want)
	}
	isRead(t, b)
	q, _ := packet.Read(b)
	if !same(p, q) {
		t.Fatalf("consequence: Read of what Write wrote: the tag %d with %d chunks; want %d with %d", q.Tag, len(q.Chunks), p.Tag, len(p.Chunks))
	}
}

func same(p, q api.Packet) bool {
	if p.Tag != q.Tag || len(p.Chunks) != len(q.Chunks) {
		return false
	}
	for i, c := range p.Chunks {
		if d := q.Chunks[i]; c.Kind != d.Kind || c.Flags != d.Flags || !bytes.Equal(c.Body, d.Body) {
			return false
		}
	}
	return true
}

func TestExamples(t *testing.T) {
	if n := packet.Size(api.Packet{}); n != 12 {
		t.Errorf("P10.1: Size of a packet without chunks: %d", n)
	}
	if n := packet.Size(of(0, bodied(3, 5))); n != 24 {
		t.Errorf("P10.1: Size with a body of 5 bytes: %d", n)
	}
	if packet.Port != 5000 {
		t.Errorf("Port: %d", packet.Port)
	}
	sack := api.Chunk{Kind: api.KindSack}
	if !packet.Fits(api.Packet{}, sack, 16) || packet.Fits(api.Packet{}, sack, 15) || packet.Fits(of(0, sack), api.Chunk{Kind: api.KindInit}, 1000) {
		t.Errorf("P10.2: the chapter's examples")
	}
	if b := packet.Write(api.Packet{}); len(b) != 0 {
		t.Errorf("P10.3: Write of a packet without chunks: %x", b)
	}
	isRefused(t, make([]byte, 11), api.ErrForm)
	isRefused(t, make([]byte, 12), api.ErrSum)
	isRefused(t, sealed(make([]byte, 12)), api.ErrForm)
	text := "\x13\x88\x13\x88\x01\x02\x03\x04\x32\x66\xe6\x03\x0b\x00\x00\x04\x00\x03\x00\x09\x01\x02\x03\x04\x05\x00\x00\x00"
	p := of(0x01020304, api.Chunk{Kind: 11}, api.Chunk{Flags: 3, Body: []byte{1, 2, 3, 4, 5}})
	if b := packet.Write(p); string(b) != text {
		t.Errorf("P10.3: Write: %x; want %x", b, text)
	}
	if q, e := packet.Read([]byte(text)); e != api.OK || !same(p, q) {
		t.Errorf("P10.4: Read: %v, %d", q, e)
	}
}

// lengths has those of short bodies and of those next to the limits of one and of two bytes.
func lengths() []int {
	all := []int{1000, 1484, 4096, 32763, 32764}
	for n := range 40 {
		all = append(all, n)
	}
	for n := 247; n < 260; n++ {
		all = append(all, n)
	}
	for n := longest - 9; n < longest+9; n++ {
		all = append(all, n)
	}
	return append(all, 1<<17-4, 1<<17, 1<<17+1)
}

func TestSizeOfEveryLength(t *testing.T) {
	before := 12
	var chunks []api.Chunk
	for _, n := range lengths() {
		own := 4 + n
		for own%4 != 0 {
			own++
		}
		if got := packet.Size(of(9, bodied(3, n))); got != 12+own {
			t.Errorf("P10.1: Size with a body of %d bytes: %d; want %d", n, got, 12+own)
		}
		before += own
		chunks = append(chunks, bodied(1, n))
		if got := packet.Size(of(9, chunks...)); got != before {
			t.Errorf("P10.1: Size of %d chunks, the last with a body of %d bytes: %d; want %d", len(chunks), n, got, before)
		}
	}
	if got := packet.Size(of(9, make([]api.Chunk, 1<<20)...)); got != 12+4<<20 {
		t.Errorf("P10.1: Size of 2^20 chunks: %d", got)
	}
}

// The memory of one body in many chunks: the sum is far beyond 32 bits.
func TestSizeOfManyBytes(t *testing.T) {
	many := make([]api.Chunk, 1<<14)
	body := make([]byte, 1<<20-1)
	for i := range many {
		many[i].Body = body
	}
	if got, want := packet.Size(of(0, many...)), 12+(1<<20+4)<<14; got != want {
		t.Errorf("P10.1: Size: %d; want %d", got, want)
	}
}

func TestAlone(t *testing.T) {
	for kind := range 256 {
		if got, want := packet.Alone(uint8(kind)), kind == 1 || kind == 2 || kind == 14; got != want {
			t.Errorf("P10.1: Alone(%d): %v", kind, got)
		}
	}
}

// fitsLikeModel ends the test unless Fits answers, for mtus on both sides of the size, what the model says.
func fitsLikeModel(t *testing.T, p api.Packet, c api.Chunk) {
	t.Helper()
	all := append(append([]api.Chunk{}, p.Chunks...), c)
	size := len(encoding(of(p.Tag, all...)))
	for _, mtu := range []int{math.MinInt, -size, -1, 0, 1, 11, 12, size - 4, size - 1, size, size + 1, size + 4, size + 1<<16, 1 << 32, 1<<32 + 1, math.MaxInt} {
		if got, want := packet.Fits(p, c, mtu), canShare(all) && size <= mtu; got != want {
			t.Fatalf("P10.2: Fits of kind %d with a body of %d bytes after %d chunks, the mtu %d and the size %d: %v", c.Kind, len(c.Body), len(p.Chunks), mtu, size, got)
		}
	}
}

func TestFitsOfEveryKind(t *testing.T) {
	for kind := range 256 {
		one := api.Chunk{Kind: uint8(kind), Body: []byte{1}}
		fitsLikeModel(t, api.Packet{}, one)
		for _, other := range []uint8{0, 1, 2, 3, 4, 11, 14, 192, 255} {
			fitsLikeModel(t, of(1, one), api.Chunk{Kind: other})
			fitsLikeModel(t, of(1, api.Chunk{Kind: other}), one)
			fitsLikeModel(t, of(1, api.Chunk{Kind: other}, one), api.Chunk{Kind: 3})
			fitsLikeModel(t, of(1, one, api.Chunk{Kind: other}), api.Chunk{Kind: 3})
			fitsLikeModel(t, of(1, api.Chunk{Kind: 3}, api.Chunk{Kind: other}), one)
		}
	}
}

func TestFitsOfEveryLength(t *testing.T) {
	for _, n := range lengths() {
		c := bodied(3, n)
		fitsLikeModel(t, api.Packet{}, c)
		fitsLikeModel(t, api.Packet{}, bodied(1, n))
		fitsLikeModel(t, of(1, bodied(4, 5)), c)
		fitsLikeModel(t, of(1, c), bodied(4, 5))
		fitsLikeModel(t, of(1, bodied(4, 5), c, bodied(5, 7)), bodied(4, 6))
		fitsLikeModel(t, of(1, c), c)
	}
}

// A packet of one mtu that is filled until no more fits, as the layers above do it.
func TestFitsFills(t *testing.T) {
	for _, mtu := range []int{128, 129, 131, 132, 1500} {
		for n := range 60 {
			p, c := api.Packet{}, bodied(0, n)
			for packet.Fits(p, c, mtu) {
				p.Chunks = append(p.Chunks, c)
			}
			if want := (mtu - 12) / len(chunkBytes(c)); len(p.Chunks) != want {
				t.Errorf("P10.2: %d chunks with bodies of %d bytes fit into %d; want %d", len(p.Chunks), n, mtu, want)
			}
			isWritten(t, p)
		}
	}
}

func TestEveryTag(t *testing.T) {
	for _, tag := range []uint32{0, 1, 255, 256, 65535, 65536, 1<<24 - 1, 1 << 24, 1<<31 - 1, 1 << 31, 1<<32 - 2, 1<<32 - 1, 0x01020304, 0x13881388} {
		isWritten(t, of(tag))
		isWritten(t, of(tag, api.Chunk{Kind: 11}))
		isWritten(t, of(tag, bodied(1, 16)))
		isWritten(t, of(tag, bodied(3, 12), bodied(0, 13), bodied(0, 13)))
	}
}

func TestEveryKind(t *testing.T) {
	for kind := range 256 {
		for _, flags := range []uint8{0, 1, 8, 128, 255} {
			one := api.Chunk{Kind: uint8(kind), Flags: flags, Body: someBytes(kind%7, 5)}
			isWritten(t, of(1, one))
			for _, other := range []uint8{0, 1, 2, 3, 14, 192, 255} {
				d := api.Chunk{Kind: other, Flags: flags}
				isWritten(t, of(1, one, d))
				isWritten(t, of(1, d, one))
				isWritten(t, of(1, d, one, bodied(9, 3)))
				isWritten(t, of(1, bodied(9, 3), d, one))
				isWritten(t, of(1, bodied(9, 3), one, d))
			}
		}
	}
	for _, p := range []api.Packet{{}, {Tag: 1}, {Chunks: []api.Chunk{}}, {Tag: 5, Chunks: make([]api.Chunk, 0, 4)}} {
		isWritten(t, p)
	}
	isWritten(t, of(0, api.Chunk{}))
	isWritten(t, of(0, make([]api.Chunk, 3)...))
}

func TestEveryLength(t *testing.T) {
	for _, n := range lengths() {
		c, d := bodied(3, n), bodied(4, 2)
		for _, p := range []api.Packet{of(1, c), of(1, bodied(1, n)), of(1, c, d), of(1, d, c), of(1, d, c, d), of(1, d, d, c), of(1, c, c)} {
			if got, want := len(packet.Write(p)) > 0, n <= longest; got != want {
				t.Fatalf("P10.3: Write of %d chunks, one with a body of %d bytes: some bytes %v; want %v", len(p.Chunks), n, got, want)
			}
			isWritten(t, p)
		}
	}
}

func TestManyChunks(t *testing.T) {
	for _, count := range []int{1, 2, 3, 10, 255, 256, 257, 65535, 65536, 1 << 18} {
		all := make([]api.Chunk, count)
		body := someBytes(3, 1)
		for i := range all {
			all[i] = api.Chunk{Kind: 9, Flags: uint8(i), Body: body[:i%3]}
		}
		isWritten(t, of(uint32(count), all...))
		all[count-1].Kind = api.KindInitAck
		isWritten(t, of(uint32(count), all...))
	}
	var most []api.Chunk
	for range 40 {
		most = append(most, bodied(10, longest))
	}
	isWritten(t, of(7, most...))
}

// Packets of few chunks from a few kinds and lengths, in every order.
func TestEverySmallPacket(t *testing.T) {
	var some []api.Chunk
	for _, kind := range []uint8{0, 1, 2, 14, 15} {
		for n := range 3 {
			some = append(some, bodied(kind, 2*n))
		}
	}
	var visit func(chunks []api.Chunk)
	visit = func(chunks []api.Chunk) {
		isWritten(t, of(6, chunks...))
		if len(chunks) == 3 {
			return
		}
		for _, c := range some {
			visit(append(chunks[:len(chunks):len(chunks)], c))
		}
	}
	visit(nil)
}

func TestReadOfTooFewBytes(t *testing.T) {
	whole := encoding(of(1, api.Chunk{Kind: 11}))
	for n := range 12 {
		isRefused(t, make([]byte, n), api.ErrForm)
		isRefused(t, bytes.Repeat([]byte{0xff}, n), api.ErrForm)
		isRefused(t, whole[:n], api.ErrForm)
		isRefused(t, whole[:n:n], api.ErrForm)
		// No packet even with the checksum that these bytes would have.
		b := make([]byte, n)
		if n >= 4 {
			copy(b, "\x13\x88\x13\x88")
			be.PutUint32(b[n-4:], crc32.Checksum(b[:n-4], crc32.MakeTable(crc32.Castagnoli)))
		}
		isRefused(t, b, api.ErrForm)
	}
	isRefused(t, nil, api.ErrForm)
	isRefused(t, whole[:12], api.ErrSum)
	isRefused(t, sealed(whole[:12]), api.ErrForm)
}

func TestReadOfEveryPort(t *testing.T) {
	whole := encoding(of(5, bodied(3, 12)))
	for port := range 1 << 16 {
		for at := range 3 { // the first port, the second, and both
			b := bytes.Clone(whole)
			if at != 1 {
				be.PutUint16(b, uint16(port))
			}
			if at != 0 {
				be.PutUint16(b[2:], uint16(port))
			}
			if port == 5000 {
				isRead(t, sealed(b))
				continue
			}
			isRefused(t, b, api.ErrSum)
			isRefused(t, sealed(b), api.ErrForm)
		}
	}
}

// A wrong checksum is told first, whatever else is wrong.
func TestReadTellsTheChecksumFirst(t *testing.T) {
	good := encoding(of(5, bodied(3, 12), api.Chunk{Kind: 11}))
	port, alone, end := bytes.Clone(good), bytes.Clone(good), bytes.Clone(good)
	port[0], alone[12], end[15] = 0, api.KindComplete, 3
	for _, b := range [][]byte{good[:12], good[:13], good[:16], port, alone, end, join(good, []byte{0}), join(good, []byte{0, 0, 0, 0})} {
		b = sealed(b)
		isRefused(t, b, api.ErrForm)
		for k := range 32 {
			c := bytes.Clone(b)
			c[8+k/8] ^= 1 << (k % 8)
			isRefused(t, c, api.ErrSum)
		}
	}
	isRead(t, good)
}

// The checksum must be the chapter's in all of its four bytes, in its order, and is of all the bytes.
func TestReadOfOtherChecksums(t *testing.T) {
	whole := encoding(of(5, bodied(0, 14)))
	sum := be.Uint32(whole[8:])
	ieee, unzeroed := bytes.Clone(whole), bytes.Clone(whole)
	clear(ieee[8:12])
	others := []uint32{0, ^sum, sum + 1, sum - 1, sum<<8 | sum>>24, sum ^ 1<<31,
		binary.LittleEndian.Uint32(whole[8:]),
		crc32.ChecksumIEEE(ieee),
		crc32.Checksum(unzeroed, crc32.MakeTable(crc32.Castagnoli)),
		crc32.Checksum(join(whole[:8], whole[12:]), crc32.MakeTable(crc32.Castagnoli)),
		crc32.Checksum(whole[12:], crc32.MakeTable(crc32.Castagnoli))}
	for _, other := range others {
		b := bytes.Clone(whole)
		be.PutUint32(b[8:], other)
		isRefused(t, b, api.ErrSum)
	}
	isRead(t, whole)
}

// some has packets that are right, of one chunk and of several.
func some() []api.Packet {
	return []api.Packet{
		of(1, api.Chunk{Kind: 11}),
		of(0, api.Chunk{}),
		of(2, bodied(1, 16)),
		of(3, bodied(2, 29)),
		of(4, api.Chunk{Kind: 14}),
		of(5, bodied(3, 12), bodied(0, 13), bodied(0, 17)),
		of(1<<32-1, bodied(255, 1), bodied(255, 2), bodied(255, 3), bodied(255, 0), bodied(255, 4)),
	}
}

func TestReadOfPrefixesAndMore(t *testing.T) {
	for _, p := range some() {
		whole := encoding(p)
		for n := range whole {
			judge(t, whole[:n])
			if n >= 12 {
				judge(t, sealed(whole[:n])[:n:n])
				// What lies within the capacity of a slice is not a part of it.
				b := join(sealed(whole[:n]), whole[n:])
				judge(t, b[:n])
			}
		}
		for n := range 20 {
			for _, more := range [][]byte{make([]byte, n), bytes.Repeat([]byte{0xff}, n), someBytes(n, int64(n)), bytes.Repeat([]byte{11, 0, 0, 4}, n)} {
				judge(t, join(whole, more))
				judge(t, sealed(join(whole, more)))
			}
		}
		isRead(t, whole)
	}
}

// Every byte of a packet with every value, with the checksum that it had and with the right one.
func TestReadOfChangedPackets(t *testing.T) {
	for _, p := range some() {
		whole := encoding(p)
		for at := range whole {
			for x := range 256 {
				b := bytes.Clone(whole)
				b[at] = byte(x)
				if b[at] == whole[at] {
					isRead(t, b)
					continue
				}
				isRefused(t, b, api.ErrSum)
				judge(t, sealed(b))
			}
		}
	}
}

// Each length that two bytes can tell, of the first chunk and of the last.
func TestReadOfEveryLengthField(t *testing.T) {
	for _, size := range []int{4, 8, 40, 300} {
		b := encoding(of(5, api.Chunk{Kind: 3, Body: make([]byte, size-4)}, api.Chunk{Kind: 5, Body: make([]byte, size-4)}))
		for length := range 1 << 16 {
			first, last := bytes.Clone(b), bytes.Clone(b)
			be.PutUint16(first[12+2:], uint16(length))
			be.PutUint16(last[12+size+2:], uint16(length))
			judge(t, sealed(first))
			if e := judge(t, sealed(last)); (e == api.OK) != (length >= 4 && length > size-4 && length <= size) {
				t.Fatalf("P10.4: the last chunk, of %d bytes, with the length %d: %d", size, length, e)
			}
		}
	}
}

func TestReadOfPadding(t *testing.T) {
	for n := range 9 {
		for m := range 5 {
			b := encoding(of(5, bodied(0, n), bodied(3, m)))
			for at := 12; at < len(b); at++ {
				for x := range 256 {
					c := bytes.Clone(b)
					c[at] = byte(x)
					judge(t, sealed(c))
				}
			}
			first := 16 + n
			for at := first; at%4 != 0; at++ {
				c := bytes.Clone(b)
				c[at] = 1
				isRefused(t, sealed(c), api.ErrForm)
			}
			for at := len(b) - (4-m%4)%4; at < len(b); at++ {
				c := bytes.Clone(b)
				c[at] = 0x80
				isRefused(t, sealed(c), api.ErrForm)
			}
		}
	}
}

// Chunks that must be alone are refused beside others, wherever they stand.
func TestReadOfChunksThatMustBeAlone(t *testing.T) {
	for _, kind := range []uint8{1, 2, 14} {
		one := bodied(kind, 5)
		isRead(t, encoding(of(5, one)))
		for count := 2; count < 6; count++ {
			for at := range count {
				all := make([]api.Chunk, count)
				isRead(t, encoding(of(5, all...)))
				all[at] = one
				isRefused(t, encoding(of(5, all...)), api.ErrForm)
			}
		}
		isRefused(t, encoding(of(5, one, one)), api.ErrForm)
		isRefused(t, join(encoding(of(5, one)), chunkBytes(one)), api.ErrSum)
	}
}

// Sealed bytes of which many are packets, and many are nearly one.
func TestRandomBytes(t *testing.T) {
	r := rand.New(rand.NewSource(101))
	bodies := someBytes(1000, 103)
	read := 0
	for range 200000 {
		b := make([]byte, 12, 64)
		copy(b, "\x13\x88\x13\x88")
		be.PutUint32(b[4:], r.Uint32())
		for range r.Intn(4) {
			body := bodies[r.Intn(990):][:r.Intn(10)]
			c := api.Chunk{Kind: uint8(r.Intn(20)), Flags: uint8(r.Intn(256)), Body: body}
			b = append(b, chunkBytes(c)...)
		}
		if r.Intn(2) == 0 && len(b) > 12 {
			b[12+r.Intn(len(b)-12)] = byte(r.Intn(9))
		}
		b = b[:len(b)-r.Intn(2)*r.Intn(len(b)-11)]
		if r.Intn(8) > 0 {
			b = sealed(b)
		}
		if judge(t, b) == api.OK {
			read++
		}
	}
	if read < 40000 {
		t.Errorf("only %d were packets", read)
	}
	for n := range 3000 {
		b := someBytes(n%60, int64(n))
		judge(t, b)
		if len(b) >= 12 {
			judge(t, sealed(b))
		}
	}
}

// bitsFlipped returns a copy of b with those bits of 32 flipped that pattern has, from bit at on; each byte's are counted from the least significant one.
func bitsFlipped(b []byte, at int, pattern uint32) []byte {
	c := bytes.Clone(b)
	for i := range 32 {
		if pattern>>i&1 == 1 {
			c[(at+i)/8] ^= 1 << ((at + i) % 8)
		}
	}
	return c
}

func TestBursts(t *testing.T) {
	r := rand.New(rand.NewSource(102))
	for _, p := range some() {
		whole := encoding(p)
		for _, part := range [][2]int{{0, 64}, {64, 96}, {96, 8 * len(whole)}} {
			for at := part[0]; at < part[1]; at++ {
				width := min(32, part[1]-at)
				mask := uint32(1<<width - 1)
				patterns := []uint32{1, mask, 1 | 1<<(width-1)}
				for range 20 {
					patterns = append(patterns, r.Uint32()&mask|1)
				}
				for _, pattern := range patterns {
					if p, e := packet.Read(bitsFlipped(whole, at, pattern)); e != api.ErrSum || p.Tag != 0 || len(p.Chunks) != 0 {
						t.Fatalf("consequence: Read of %x with the bits %x flipped at %d: %v, %d", whole, pattern, at, p, e)
					}
				}
			}
		}
	}
}

func TestNilIsEmpty(t *testing.T) {
	for _, kind := range []uint8{0, 1, 11} {
		a, b := of(1, api.Chunk{Kind: kind}), of(1, api.Chunk{Kind: kind, Body: []byte{}})
		if packet.Size(a) != packet.Size(b) || !bytes.Equal(packet.Write(a), packet.Write(b)) {
			t.Errorf("R3: kind %d with a nil body and with an empty one", kind)
		}
		for _, mtu := range []int{15, 16} {
			for _, p := range []api.Packet{{}, {Chunks: []api.Chunk{}}} {
				if packet.Fits(p, a.Chunks[0], mtu) != (mtu == 16) || packet.Fits(p, b.Chunks[0], mtu) != (mtu == 16) {
					t.Errorf("R3: Fits of kind %d with a nil body and with an empty one", kind)
				}
			}
		}
	}
}

// fill writes x to all elements of l, those of its capacity too.
func fill[E any](l []E, x E) {
	l = l[:cap(l)]
	for i := range l {
		l[i] = x
	}
}

// The chunks and the bodies are parts of longer slices, of which nothing may change.
func TestArgumentsStay(t *testing.T) {
	for count := range 6 {
		for n := range 9 {
			memory := bytes.Repeat([]byte{0xee}, 30)
			chunks := make([]api.Chunk, 10)
			fill(chunks, api.Chunk{Kind: 200, Flags: 7, Body: memory[10 : 10+n]})
			p := api.Packet{Tag: 9, Chunks: chunks[2 : 2+count]}
			c := api.Chunk{Kind: 5, Flags: 4, Body: memory[5 : 5+n]}
			packet.Size(p)
			packet.Write(p)
			packet.Fits(p, c, 1000)
			packet.Fits(p, c, 10)
			packet.Fits(p, api.Chunk{Kind: api.KindInit}, 1000)
			if len(p.Chunks) != count || p.Tag != 9 || !bytes.Equal(memory, bytes.Repeat([]byte{0xee}, 30)) {
				t.Fatalf("R3: a packet of %d chunks with bodies of %d bytes has changed", count, n)
			}
			for i, d := range chunks {
				if d.Kind != 200 || d.Flags != 7 || len(d.Body) != n || cap(d.Body) != 20 {
					t.Fatalf("R3: of a packet of %d chunks, the chunk %d, or what lay there, has become %v", count, i-2, d)
				}
			}
		}
	}
	for _, p := range some() {
		whole := encoding(p)
		for _, b := range [][]byte{whole, sealed(whole[:12]), whole[:len(whole)-1]} {
			around := join([]byte("before"), b, []byte("and after"))
			before := bytes.Clone(around)
			packet.Read(around[6 : 6+len(b)])
			if !bytes.Equal(around, before) {
				t.Fatalf("R3: Read of %x changed it, or the memory around it", b)
			}
		}
	}
}

// A result in memory of its own is not touched by writing to the argument, nor the argument by writing to the result, up to the capacities of both.
func TestResultsAreNewMemory(t *testing.T) {
	for _, p := range some() {
		want := encoding(p)
		one, other := packet.Write(p), packet.Write(p)
		fill(other, 'x')
		if !bytes.Equal(one, want) || !bytes.Equal(encoding(p), want) {
			t.Fatalf("R3: Write of %v: a result shares memory", p)
		}
		b := join(want, []byte("more"))[:len(want)]
		first, _ := packet.Read(b)
		for i := range first.Chunks {
			second, _ := packet.Read(b)
			for k, c := range second.Chunks {
				if k != i {
					fill(c.Body, 'x')
				}
			}
			if !bytes.Equal(second.Chunks[i].Body, first.Chunks[i].Body) {
				t.Fatalf("R3: Read of %x: two bodies share memory", want)
			}
			fill(second.Chunks[i].Body, 'y')
			fill(second.Chunks, api.Chunk{Kind: 99})
		}
		if string(b[:len(want)+4]) != string(want)+"more" || !same(first, p) {
			t.Fatalf("R3: Read of %x: its results share memory with it or with each other", want)
		}
		fill(b, 'z')
		if !same(first, p) {
			t.Fatalf("R3: Read of %x: the packet changed with the bytes", want)
		}
		for i := range p.Chunks {
			fill(p.Chunks[i].Body, 'z')
		}
		if !bytes.Equal(one, want) {
			t.Fatalf("R3: Write: the bytes %x changed with the packet", want)
		}
	}
}

// A call that kept what an earlier one was passed or returned would answer otherwise after others, and after those were changed.
func TestSameCallSameResult(t *testing.T) {
	for range 3 {
		for _, p := range some() {
			isWritten(t, p)
			b := encoding(p)
			q, _ := packet.Read(b)
			for _, c := range append(q.Chunks, p.Chunks...) {
				fill(c.Body, 'x')
			}
			fill(q.Chunks, api.Chunk{Kind: api.KindInit})
			fill(packet.Write(p), 'y')
			isRefused(t, make([]byte, 12), api.ErrSum)
			isRefused(t, sealed(make([]byte, 12)), api.ErrForm)
			isRead(t, b)
			packet.Fits(p, bodied(0, longest+1), 5)
			fitsLikeModel(t, api.Packet{}, bodied(0, 5))
		}
	}
}
