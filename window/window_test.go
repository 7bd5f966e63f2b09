package window_test

import (
	"math"
	"math/rand"
	"testing"

	"fairlead/api"
	"fairlead/window"
)

// The limits are written out: what the document says, not what the program reads.
const (
	minMtu   = 128
	maxMtu   = 1500
	greatest = 16777216
)

// The model: what the chapter says, word by word.

type model struct {
	mtu, most             int
	size, threshold, part int64
}

func (m *model) acked(n int, full bool) {
	if n < 1 {
		return
	}
	if m.size <= m.threshold {
		if full {
			if n < m.mtu {
				m.size += int64(n)
			} else {
				m.size += int64(m.mtu)
			}
		}
	} else {
		if n < m.most {
			m.part += int64(n)
		} else {
			m.part += int64(m.most)
		}
		if full && m.part >= m.size {
			m.part -= m.size
			m.size += int64(m.mtu)
		}
	}
	if m.size > int64(m.most) {
		m.size = int64(m.most)
	}
}

func (m *model) fast() {
	m.narrow()
	if m.size > m.threshold {
		m.size = m.threshold
	}
}

func (m *model) timeout() {
	m.narrow()
	m.size = int64(m.mtu)
}

func (m *model) narrow() {
	m.threshold = (m.size - m.size%2) / 2
	if floor := 4 * int64(m.mtu); m.threshold < floor {
		m.threshold = floor
	}
	m.part = 0
}

// step is one thing that is done to a window: n bytes acknowledged, or one of the two numbers that no test acknowledges.
type step struct {
	n    int
	full bool
}

var (
	fast    = step{n: math.MinInt + 1}
	timeout = step{n: math.MinInt + 2}
)

// pair is a window, its model, and what was done to both.
type pair struct {
	t    *testing.T
	w    *window.Window
	m    model
	done []step
}

func made(t *testing.T, mtu, most int) *pair {
	t.Helper()
	w, e := window.New(mtu, most)
	if e != api.OK || w == nil {
		t.Fatalf("P13.1: New(%d, %d): %v, error %d", mtu, most, w, e)
	}
	p := &pair{t: t, w: w, m: model{mtu: mtu, most: most, size: 2 * int64(mtu), threshold: int64(most)}}
	p.same("P13.1")
	return p
}

// same checks everything that can be observed, and ends the test if it is not what the model says.
func (p *pair) same(promise string) {
	p.t.Helper()
	size, threshold := p.w.Size(), p.w.Threshold()
	if int64(size) != p.m.size || int64(threshold) != p.m.threshold {
		p.t.Fatalf("%s: New(%d, %d), after %v: size %d, threshold %d, not %d, %d", promise, p.m.mtu, p.m.most, p.last(), size, threshold, p.m.size, p.m.threshold)
	}
	if size < p.m.mtu || size > p.m.most || threshold < 4*p.m.mtu || threshold > p.m.most {
		p.t.Fatalf("P13.4: New(%d, %d), after %v: size %d, threshold %d", p.m.mtu, p.m.most, p.last(), size, threshold)
	}
}

// last returns the last steps that were done.
func (p *pair) last() []step {
	return p.done[max(0, len(p.done)-20):]
}

func (p *pair) acked(n int, full bool) {
	p.t.Helper()
	size, threshold := p.w.Size(), p.w.Threshold()
	p.done = append(p.done, step{n, full})
	p.w.Acked(n, full)
	p.m.acked(n, full)
	p.same("P13.2")
	if grown := p.w.Size() - size; grown < 0 || grown > p.m.mtu || p.w.Threshold() != threshold {
		p.t.Fatalf("P13.4: New(%d, %d), after %v: Acked: from size %d, threshold %d to %d, %d", p.m.mtu, p.m.most, p.last(), size, threshold, p.w.Size(), p.w.Threshold())
	}
}

func (p *pair) fast() {
	p.t.Helper()
	p.narrow(fast, p.w.Fast, p.m.fast)
}

func (p *pair) timeout() {
	p.t.Helper()
	p.narrow(timeout, p.w.Timeout, p.m.timeout)
}

// narrow does s to the window and to the model.
func (p *pair) narrow(s step, window, model func()) {
	p.t.Helper()
	size := p.w.Size()
	p.done = append(p.done, s)
	window()
	model()
	p.same("P13.3")
	if p.w.Size() > size {
		p.t.Fatalf("P13.4: New(%d, %d), after %v: raised from %d to %d", p.m.mtu, p.m.most, p.last(), size, p.w.Size())
	}
}

func (p *pair) do(s step) {
	p.t.Helper()
	switch s {
	case fast:
		p.fast()
	case timeout:
		p.timeout()
	default:
		p.acked(s.n, s.full)
	}
}

// is compares the size and the threshold with values that are written out.
func (p *pair) is(promise string, size, threshold int) {
	p.t.Helper()
	if p.w.Size() != size || p.w.Threshold() != threshold {
		p.t.Fatalf("%s: New(%d, %d), after %v: size %d, threshold %d, not %d, %d", promise, p.m.mtu, p.m.most, p.last(), p.w.Size(), p.w.Threshold(), size, threshold)
	}
}

// grow fills the window and acknowledges it until its size is at least what is asked for.
func (p *pair) grow(size int) {
	p.t.Helper()
	for p.w.Size() < size {
		p.acked(min(p.m.mtu, size-p.w.Size()), true)
	}
}

// above returns a window of mtu 128 whose threshold is 512 and whose size is 513, with a part of 0.
func above(t *testing.T, most int) *pair {
	t.Helper()
	p := made(t, 128, most)
	p.timeout()
	p.grow(512)
	p.is("P13.2", 512, 512)
	p.acked(1, true)
	p.is("P13.2", 513, 512)
	return p
}

// bounds are windows that the tests drive: mtu, most.
func bounds() [][2]int {
	return [][2]int{{128, 512}, {128, 513}, {128, 639}, {128, 640}, {128, 641}, {128, 1000}, {128, 5000}, {129, 2049}, {1500, 6000}, {1500, 9001}, {1500, 65536}, {1500, greatest}, {128, greatest}}
}

func TestExamples(t *testing.T) {
	p := made(t, 128, 1000)
	p.is("P13.1", 256, 1000)
	p.acked(100, true)
	p.is("P13.2", 356, 1000)
	p.acked(500, true)
	p.is("P13.2", 484, 1000)
	p.acked(9, false)
	p.is("P13.2", 484, 1000)
	p.fast()
	p.is("P13.3", 484, 512)
	p.timeout()
	p.is("P13.3", 128, 512)
	if w, e := window.New(128, 511); w != nil || e != api.ErrArg {
		t.Errorf("P13.1: New(128, 511): %v, error %d", w, e)
	}
}

// TestNew tries all combinations of numbers about the bounds.
func TestNew(t *testing.T) {
	packets := []int{math.MinInt, math.MinInt32, -1500, -128, -1, 0, 1, 127, 128, 129, 500, 1499, 1500, 1501, 1 << 22, math.MaxInt32, math.MaxInt/4 + 1, math.MaxInt/2 + 1, math.MaxInt}
	rooms := []int{math.MinInt, math.MinInt32, -1, 0, 1, 128, 256, 511, 512, 513, 515, 516, 517, 1999, 2000, 2001, 5995, 5996, 5999, 6000, 6001, greatest - 1, greatest, greatest + 1, math.MaxInt32, math.MaxInt}
	for _, mtu := range packets {
		for _, most := range rooms {
			if minMtu <= mtu && mtu <= maxMtu && 4*mtu <= most && most <= greatest {
				made(t, mtu, most).is("P13.1", 2*mtu, most)
			} else if w, e := window.New(mtu, most); e != api.ErrArg || w != nil {
				t.Errorf("P13.1: New(%d, %d): %v, error %d; want nil, ErrArg", mtu, most, w, e)
			}
		}
	}
}

// TestEveryMtu: the floor is 4 times the mtu for each of them.
func TestEveryMtu(t *testing.T) {
	for mtu := minMtu; mtu <= maxMtu; mtu++ {
		made(t, mtu, 4*mtu)
		made(t, mtu, greatest)
		if w, e := window.New(mtu, 4*mtu-1); w != nil || e != api.ErrArg {
			t.Errorf("P13.1: New(%d, %d): %v, error %d", mtu, 4*mtu-1, w, e)
		}
		p := made(t, mtu, 4*mtu+1)
		p.fast()
		p.is("P13.3", 2*mtu, 4*mtu)
		p.timeout()
		p.is("P13.3", mtu, 4*mtu)
		p.acked(mtu, true)
		p.is("P13.2", 2*mtu, 4*mtu)
	}
}

// TestFastGrowth: up to the threshold the size grows by what was acknowledged, at most by mtu, and only if full is set.
func TestFastGrowth(t *testing.T) {
	for _, c := range []struct {
		n, size int
	}{
		{1, 257}, {2, 258}, {127, 383}, {128, 384}, {129, 384}, {500, 384}, {1000, 384}, {1001, 384}, {greatest, 384}, {math.MaxInt32, 384}, {math.MaxInt - 256, 384}, {math.MaxInt - 1, 384}, {math.MaxInt, 384},
	} {
		p := made(t, 128, 1000)
		p.acked(c.n, false)
		p.is("P13.2", 256, 1000)
		p.acked(c.n, true)
		p.is("P13.2", c.size, 1000)
	}
}

// TestNoBytes: what is less than a byte does nothing, whatever the state.
func TestNoBytes(t *testing.T) {
	for _, n := range []int{0, -1, -2, -127, -128, -129, -513, -1000, -greatest, math.MinInt32, math.MinInt + 3, math.MinInt} {
		for _, full := range []bool{true, false} {
			p := made(t, 128, 1000)
			p.acked(n, full)
			p.is("P13.2", 256, 1000)
			p = above(t, 1000)
			p.acked(n, full)
			p.is("P13.2", 513, 512)
			p.acked(512, true)
			p.acked(n, full)
			p.is("P13.2", 513, 512) // a part of 512 remains
			p.acked(1, true)
			p.is("P13.2", 641, 512)
			p.acked(641, false)
			p.acked(n, full) // the part is the size, but nothing was acknowledged
			p.is("P13.2", 641, 512)
		}
	}
}

// TestMost: the size grows up to most and stays there, in both states.
func TestMost(t *testing.T) {
	p := made(t, 128, 600)
	for _, size := range []int{384, 512, 600, 600, 600} {
		p.acked(128, true)
		p.is("P13.2", size, 600)
	}
	p = made(t, 128, 600)
	p.grow(599)
	p.acked(1, true)
	p.is("P13.2", 600, 600)
	p.acked(1, true)
	p.is("P13.2", 600, 600)
	for most, last := range map[int]int{640: 640, 641: 641, 642: 641} {
		p = above(t, most)
		p.acked(513, true)
		p.is("P13.2", last, 512)
		p.acked(last, true)
		p.is("P13.2", most, 512)
		p.acked(most, true)
		p.is("P13.2", most, 512)
	}
}

// TestAtThreshold: a size that is the threshold itself is not above it.
func TestAtThreshold(t *testing.T) {
	p := made(t, 128, 5000)
	p.timeout()
	p.grow(512)
	p.acked(400, false) // counts for no part
	p.is("P13.2", 512, 512)
	p.acked(77, true)
	p.is("P13.2", 589, 512)
	p.acked(588, true)
	p.is("P13.2", 589, 512)
	p.acked(1, true)
	p.is("P13.2", 717, 512)
	p = made(t, 128, 5000)
	p.timeout()
	p.grow(511)
	p.acked(128, true) // one step may lead beyond the threshold
	p.is("P13.2", 639, 512)
	p.acked(128, true)
	p.is("P13.2", 639, 512)
}

// TestSlowGrowth: above the threshold the size grows by mtu for each size's worth of bytes.
func TestSlowGrowth(t *testing.T) {
	for _, c := range []struct {
		what  string
		steps []step
		size  int
	}{
		{"less than the size", []step{{512, true}}, 513},
		{"the size itself", []step{{513, true}}, 641},
		{"the size, by parts", []step{{200, true}, {200, true}, {113, true}}, 641},
		{"one less, by parts", []step{{200, true}, {200, true}, {112, true}}, 513},
		{"not full: it is counted, but nothing grows", []step{{513, false}}, 513},
		{"not full at first, then one byte", []step{{513, false}, {1, true}}, 641},
		{"what was counted while not full suffices with the last byte", []step{{512, false}, {1, true}}, 641},
		{"and not without it", []step{{511, false}, {1, true}}, 513},
		{"the rest stays: 600 - 513 = 87, and 641 - 87 = 554", []step{{600, true}, {554, true}}, 769},
		{"one less than that", []step{{600, true}, {553, true}}, 641},
		{"it is the size before it grew that goes: 513 + 640 - 513 = 640", []step{{513, false}, {640, true}, {1, true}}, 769},
		{"twice the size at once grows it once", []step{{1026, true}}, 641},
		{"and the rest counts: 2000 - 513 - 641 - 769 = 77", []step{{2000, true}, {1, true}, {1, true}, {1, true}}, 897},
		{"77 + 3 + 817 = 897", []step{{2000, true}, {1, true}, {1, true}, {1, true}, {816, true}}, 897},
		{"77 + 3 + 817 = 897, with one more", []step{{2000, true}, {1, true}, {1, true}, {1, true}, {817, true}}, 1025},
	} {
		p := above(t, 5000)
		for _, s := range c.steps {
			p.do(s)
		}
		if got := p.w.Size(); got != c.size {
			t.Errorf("P13.2: %s: after %v: size %d, not %d", c.what, c.steps, got, c.size)
		}
		p.is("P13.3", c.size, 512)
	}
}

// TestPartOfMost: the part grows by most at most.
func TestPartOfMost(t *testing.T) {
	for _, n := range []int{2000, 2001, 3000, greatest, math.MaxInt32, math.MaxInt - 1, math.MaxInt} {
		p := above(t, 2000)
		p.acked(n, false)
		p.is("P13.2", 513, 512)
		for _, size := range []int{641, 769, 897} { // 2000 - 513 - 641 - 769 = 77, with one for each
			p.acked(1, true)
			p.is("P13.2", size, 512)
		}
		p.acked(816, true)
		p.is("P13.2", 897, 512)
		p.acked(1, true)
		p.is("P13.2", 1025, 512)
	}
	p := above(t, 2000)
	p.acked(1999, false)
	for range 3 {
		p.acked(1, true)
	}
	p.acked(817, true)
	p.is("P13.2", 897, 512)
	p.acked(1, true)
	p.is("P13.2", 1025, 512)
}

// TestGreatPart: the part may be far greater than any number of 32 bits; no sum overflows.
func TestGreatPart(t *testing.T) {
	p := above(t, greatest)
	for range 5000 {
		p.acked(math.MaxInt, false)
	}
	p.is("P13.2", 513, 512)
	for k := range 36200 { // of 5000 times 16777216 bytes and one for each, 1702400 remain
		p.acked(1, true)
		p.is("P13.2", 513+128*(k+1), 512)
	}
	p.acked(4634113-1702400-1, true)
	p.is("P13.2", 4634113, 512)
	p.acked(1, true)
	p.is("P13.2", 4634113+128, 512)
	for range 100000 {
		p.acked(math.MaxInt, true)
	}
	p.is("P13.2", greatest, 512)
	p.fast()
	p.is("P13.3", greatest/2, greatest/2)
	p.acked(1, true)
	p.is("P13.2", greatest/2+1, greatest/2)
	p.acked(greatest/2, true)
	p.is("P13.2", greatest/2+1, greatest/2)
	p.acked(1, true)
	p.is("P13.2", greatest/2+129, greatest/2)
}

func TestFast(t *testing.T) {
	for _, c := range []struct {
		before, size, threshold int
	}{
		{256, 256, 512}, {400, 400, 512}, {511, 511, 512}, {512, 512, 512}, {513, 512, 512}, {600, 512, 512}, {1023, 512, 512}, {1024, 512, 512}, {1025, 512, 512}, {1026, 513, 513}, {1027, 513, 513}, {1500, 750, 750}, {2999, 1499, 1499}, {3000, 1500, 1500},
	} {
		p := made(t, 128, 3000)
		p.grow(c.before)
		p.is("P13.2", c.before, 3000)
		p.fast()
		p.is("P13.3", c.size, c.threshold)
		p = made(t, 128, 3000)
		p.grow(c.before)
		p.timeout()
		p.is("P13.3", 128, c.threshold)
	}
}

// TestAgain: each of the two halves what is there by then, not what was there at first.
func TestAgain(t *testing.T) {
	p := made(t, 128, 8000)
	p.grow(8000)
	for _, size := range []int{4000, 2000, 1000, 512, 512} {
		p.fast()
		p.is("P13.3", size, size)
	}
	p = made(t, 128, 8000)
	p.grow(8000)
	p.timeout()
	p.is("P13.3", 128, 4000)
	p.timeout()
	p.is("P13.3", 128, 512)
	p = made(t, 128, 8000)
	p.grow(8000)
	p.fast()
	p.timeout()
	p.is("P13.3", 128, 2000)
	p.fast()
	p.is("P13.3", 128, 512) // Fast does not raise the size to the threshold
}

// TestRaisesThreshold: the threshold may become greater than it was.
func TestRaisesThreshold(t *testing.T) {
	p := above(t, 20000)
	for p.w.Size() < 2000 {
		p.acked(2000, true)
	}
	p.is("P13.2", 2049, 512)
	p.fast()
	p.is("P13.3", 1024, 1024)
}

// TestPartGone: both forget the part.
func TestPartGone(t *testing.T) {
	for _, s := range []step{fast, timeout} {
		p := above(t, 5000)
		p.acked(5000, false)
		p.do(s)
		p.grow(513)
		p.is("P13.3", 513, 512)
		p.acked(512, true)
		p.is("P13.3", 513, 512)
		p.acked(1, true)
		p.is("P13.3", 641, 512)
		p.acked(640, true)
		p.do(s)
		p.grow(513)
		p.acked(512, true)
		p.is("P13.3", 513, 512)
	}
}

// TestAllShort tries all short sequences of everything that can be done, from windows in both states.
func TestAllShort(t *testing.T) {
	steps := []step{{1, true}, {128, true}, {400, true}, {513, true}, {300, false}, {2000, false}, {0, true}, fast, timeout}
	for _, most := range []int{640, 1100} {
		for _, begin := range [][]step{nil, {timeout, {128, true}, {128, true}, {128, true}, {128, true}}} {
			for length := range 6 {
				count := 1
				for range length {
					count *= len(steps)
				}
				for n := range count {
					p := made(t, 128, most)
					for _, s := range begin {
						p.do(s)
					}
					for range length {
						p.do(steps[n%len(steps)])
						n /= len(steps)
					}
				}
			}
		}
	}
}

// TestManySteps goes far, with numbers of all sizes.
func TestManySteps(t *testing.T) {
	random := rand.New(rand.NewSource(13))
	for _, b := range bounds() {
		for range 100 {
			p := made(t, b[0], b[1])
			losses := 1 + random.Intn(100)
			for range 1000 {
				full := random.Intn(3) > 0
				switch x := random.Intn(1000); {
				case x < losses:
					p.fast()
				case x < 3*losses/2:
					p.timeout()
				case x < 850:
					p.acked(random.Intn(2*b[0]), full)
				case x < 950:
					p.acked(random.Intn(2*b[1]), full)
				default:
					p.acked(int(random.Uint64()>>random.Intn(64)), full)
				}
			}
		}
	}
}

func TestNil(t *testing.T) {
	var w *window.Window
	for _, n := range []int{math.MinInt, -1, 0, 1, 128, math.MaxInt} {
		w.Acked(n, true)
		w.Acked(n, false)
	}
	w.Fast()
	w.Timeout()
	if size, threshold := w.Size(), w.Threshold(); size != 0 || threshold != 0 {
		t.Errorf("P13.1: nil: size %d, threshold %d", size, threshold)
	}
}

// TestApart: what is done to one window does not show in another, and the same done twice shows the same.
func TestApart(t *testing.T) {
	steps := []step{{100, true}, {500, true}, timeout, {128, true}, {128, true}, {128, true}, {128, true}, {600, false}, {9, true}, fast, {1, true}}
	one, two, still, other := made(t, 128, 1000), made(t, 128, 1000), made(t, 128, 1000), made(t, 200, 900)
	for _, s := range steps {
		one.do(s)
		other.do(s)
		still.same("R5")
		two.same("R5")
	}
	for _, s := range steps {
		two.do(s)
	}
	if one.w.Size() != two.w.Size() || one.w.Threshold() != two.w.Threshold() {
		t.Errorf("R5: the same twice: %d, %d and %d, %d", one.w.Size(), one.w.Threshold(), two.w.Size(), two.w.Threshold())
	}
	still.is("R5", 256, 1000)
}

// TestOnlyReads: Size and Threshold change nothing.
func TestOnlyReads(t *testing.T) {
	p := above(t, 1000)
	for _, s := range []step{{300, true}, {300, false}, {1, true}, fast, {1, true}, timeout} {
		for range 5 {
			p.same("R5")
		}
		p.do(s)
	}
}
