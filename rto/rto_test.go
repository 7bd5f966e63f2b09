package rto_test

import (
	"math"
	"math/rand"
	"testing"

	"fairlead/api"
	"fairlead/rto"
)

// maxTicks is written out: what the document says, not what the program reads.
const maxTicks = 1048576

// The model: what the chapter says, word by word.

type model struct {
	value, least, most int64
	s, v               int64
	any                bool
}

func (m *model) sample(t int64) api.Errno {
	if t < 0 {
		return api.ErrArg
	}
	if t > maxTicks {
		t = maxTicks
	}
	if m.any {
		d := m.s/8 - t
		if d < 0 {
			d = -d
		}
		m.v = m.v - m.v/4 + d
		m.s = m.s - m.s/8 + t
	} else {
		m.s, m.v, m.any = 8*t, 2*t, true
	}
	if m.v > 1 {
		m.value = m.s/8 + m.v
	} else {
		m.value = m.s/8 + 1
	}
	m.lower()
	if m.value < m.least {
		m.value = m.least
	}
	return api.OK
}

func (m *model) back() {
	m.value += m.value
	m.lower()
}

func (m *model) lower() {
	if m.value > m.most {
		m.value = m.most
	}
}

// pair is an estimator, its model, and what was done to both.
type pair struct {
	t    *testing.T
	r    *rto.Rto
	m    model
	done []int64 // the times that were sampled; backed for Back
}

const backed = math.MinInt64

func made(t *testing.T, first, least, most int64) *pair {
	t.Helper()
	r, e := rto.New(first, least, most)
	if e != api.OK || r == nil {
		t.Fatalf("P12.1: New(%d, %d, %d): %v, error %d", first, least, most, r, e)
	}
	p := &pair{t: t, r: r, m: model{value: first, least: least, most: most}}
	p.same("P12.1")
	return p
}

// same checks everything that can be observed, and ends the test if it is not what the model says.
func (p *pair) same(promise string) {
	p.t.Helper()
	got := p.r.Value()
	if got != p.m.value {
		p.t.Fatalf("%s: from %d to %d, after %d: Value: %d, not %d", promise, p.m.least, p.m.most, p.done, got, p.m.value)
	}
	if got < p.m.least || got > p.m.most {
		p.t.Fatalf("P12.4: from %d to %d, after %d: Value: %d", p.m.least, p.m.most, p.done, got)
	}
	s, any := p.r.Smooth()
	if any != p.m.any || s != p.m.s/8 {
		p.t.Fatalf("P12.3: after %d: Smooth: %d, %v, not %d, %v", p.done, s, any, p.m.s/8, p.m.any)
	}
}

func (p *pair) sample(t int64) {
	p.t.Helper()
	p.done = append(p.done, t)
	if got, want := p.r.Sample(t), p.m.sample(t); got != want {
		p.t.Fatalf("P12.2: after %d: error %d, not %d", p.done, got, want)
	}
	p.same("P12.2")
}

func (p *pair) back() {
	p.t.Helper()
	before := p.r.Value()
	p.done = append(p.done, backed)
	p.r.Back()
	p.m.back()
	p.same("P12.3")
	if p.r.Value() < before {
		p.t.Fatalf("P12.4: after %d: Back lowered %d to %d", p.done, before, p.r.Value())
	}
}

// step samples t, or backs.
func (p *pair) step(t int64) {
	p.t.Helper()
	if t == backed {
		p.back()
	} else {
		p.sample(t)
	}
}

// is compares the value with one that is written out.
func (p *pair) is(want int64) {
	p.t.Helper()
	if got := p.r.Value(); got != want {
		p.t.Fatalf("P12.2: after %d: Value: %d, not %d", p.done, got, want)
	}
}

func (p *pair) isSmooth(want int64) {
	p.t.Helper()
	if got, any := p.r.Smooth(); got != want || !any {
		p.t.Fatalf("P12.3: after %d: Smooth: %d, %v, not %d, true", p.done, got, any, want)
	}
}

// runs are bounds between which the tests sample: first, least, most.
func runs() [][3]int64 {
	return [][3]int64{{1, 1, 1}, {1, 1, maxTicks}, {3, 1, 60}, {4, 4, 9}, {9, 4, 9}, {6, 5, 8}, {maxTicks, 1, maxTicks}, {maxTicks, maxTicks, maxTicks}, {1000, 200, 60000}}
}

func TestExamples(t *testing.T) {
	p := made(t, 3, 1, 60)
	p.is(3)
	p.sample(8)
	p.is(24)
	p.isSmooth(8)
	p.sample(8)
	p.is(20)
	p.isSmooth(8)
	p.sample(0)
	p.is(24)
	p.isSmooth(7)
	p.back()
	p.is(48)
	p.back()
	p.is(60)
	p.isSmooth(7)
	if r, e := rto.New(0, 1, 2); r != nil || e != api.ErrArg {
		t.Errorf("P12.1: New(0, 1, 2): %v, error %d", r, e)
	}
	if e := p.r.Sample(-1); e != api.ErrArg {
		t.Errorf("P12.2: Sample(-1): error %d", e)
	}
	p.same("R2")
}

// TestNew tries all combinations of numbers about the bounds.
func TestNew(t *testing.T) {
	numbers := []int64{math.MinInt64, -maxTicks, -1, 0, 1, 2, 3, 4, maxTicks - 1, maxTicks, maxTicks + 1, 1 << 32, math.MaxInt64}
	for _, first := range numbers {
		for _, least := range numbers {
			for _, most := range numbers {
				if 1 <= least && least <= first && first <= most && most <= maxTicks {
					made(t, first, least, most)
				} else if r, e := rto.New(first, least, most); e != api.ErrArg || r != nil {
					t.Errorf("P12.1: New(%d, %d, %d): %v, error %d; want nil, ErrArg", first, least, most, r, e)
				}
			}
		}
	}
}

func TestNewWithoutSamples(t *testing.T) {
	r, _ := rto.New(7, 2, 30)
	if got := r.Value(); got != 7 {
		t.Errorf("P12.1: Value: %d, not 7", got)
	}
	if s, any := r.Smooth(); s != 0 || any {
		t.Errorf("P12.3: Smooth without a sample: %d, %v", s, any)
	}
	r.Back()
	if s, any := r.Smooth(); s != 0 || any {
		t.Errorf("P12.3: Smooth after Back: %d, %v", s, any)
	}
}

// TestKnown compares values and smoothed times that were computed by hand.
func TestKnown(t *testing.T) {
	for _, c := range []struct {
		what          string
		samples       []int64
		value, smooth int64
	}{
		{"a first one: S 80, V 20", []int64{10}, 30, 10},
		{"no time at all: S 0, V 0, in place of which 1 counts", []int64{0}, 1, 0},
		{"one tick: S 8, V 2", []int64{1}, 3, 1},
		{"twice one tick: V 2", []int64{1, 1}, 3, 1},
		{"V 4, then 3", []int64{2, 2}, 5, 2},
		{"V 3, which a fourth does not lower", []int64{2, 2, 2, 2, 2}, 5, 2},
		{"V 20, then 15", []int64{10, 10}, 25, 10},
		{"V 20, 15, 12", []int64{10, 10, 10}, 22, 10},
		{"V 20, 15, 12, 9", []int64{10, 10, 10, 10}, 19, 10},
		{"later: d 6, V 21, S 86", []int64{10, 16}, 31, 10},
		{"sooner: d 6, V 21, S 74", []int64{10, 4}, 30, 9},
		{"S 74, of which 9 and not 9.25 go; d 5, V 21 - 5 + 5, S 79", []int64{10, 4, 14}, 30, 9},
		{"S 0, V 1, S 1", []int64{0, 1}, 1, 0},
		{"S 1, V 2, S 2", []int64{0, 1, 1}, 2, 0},
		{"S 7, in seven steps: V 3 - 0 + 1, 4 - 1 + 1, ..", []int64{0, 1, 1, 1, 1, 1, 1, 1}, 4, 0},
		{"S 8: the smoothed time reaches 1, and V is 4", []int64{0, 1, 1, 1, 1, 1, 1, 1, 1}, 5, 1},
		{"d is of S before the sample, 8 and not 7: V 16 - 4 + 8, S 56", []int64{8, 0}, 27, 7},
		{"S 800, V 200; d 100, V 250, S 700", []int64{100, 0}, 337, 87},
	} {
		p := made(t, 50, 1, 1000)
		for _, x := range c.samples {
			p.sample(x)
		}
		if got := p.r.Value(); got != c.value {
			t.Errorf("P12.2: %s: after %d: Value: %d, not %d", c.what, c.samples, got, c.value)
		}
		if got, any := p.r.Smooth(); got != c.smooth || !any {
			t.Errorf("P12.3: %s: after %d: Smooth: %d, %v, not %d, true", c.what, c.samples, got, any, c.smooth)
		}
	}
}

func TestLimits(t *testing.T) {
	p := made(t, 8, 5, 30)
	p.sample(0) // 0 + 1
	p.is(5)
	p = made(t, 8, 5, 30)
	p.sample(1) // 1 + 2
	p.is(5)
	p = made(t, 8, 6, 30)
	p.sample(2) // 2 + 4 is the least itself
	p.is(6)
	p = made(t, 8, 5, 30)
	p.sample(10) // 10 + 20 is the most itself
	p.is(30)
	p = made(t, 8, 5, 30)
	p.sample(11) // 11 + 22
	p.is(30)
	p.isSmooth(11)
	p.sample(0) // V 22 - 5 + 11, S 88 - 11: what was limited is the value, not S and V
	p.is(30)
	p.isSmooth(9)
	p.sample(9) // V 28 - 7 + 0, S 77 - 9 + 9
	p.is(30)
	p.sample(9) // V 21 - 5 + 0
	p.is(25)
}

// TestGreatTimes: a time beyond the greatest counts as that.
func TestGreatTimes(t *testing.T) {
	for _, x := range []int64{maxTicks - 1, maxTicks, maxTicks + 1, 2 * maxTicks, 1 << 32, 1 << 60, math.MaxInt64 - 1, math.MaxInt64} {
		p := made(t, 10, 1, maxTicks)
		p.sample(x)
		p.is(maxTicks)
		p.isSmooth(min(x, maxTicks))
		p.sample(x)
		p.isSmooth(min(x, maxTicks))
		for range 20 {
			p.sample(0)
		}
		p.sample(x)
		for range 200 {
			p.sample(7)
		}
		p.is(10) // by then all of it is forgotten but for what a division leaves
	}
	few, many := made(t, 10, 1, maxTicks), made(t, 10, 1, maxTicks)
	few.sample(0)
	many.sample(0)
	few.sample(maxTicks)
	many.sample(math.MaxInt64)
	few.isSmooth(131072)
	many.isSmooth(131072)
}

// TestWrongTimes: a negative time changes nothing, before the first sample and after it.
func TestWrongTimes(t *testing.T) {
	for _, x := range []int64{-1, -2, -8, -maxTicks, -maxTicks - 1, math.MinInt64 + 1, math.MinInt64} {
		p := made(t, 3, 1, 60)
		for _, y := range []int64{5, 6, 0, 40} {
			if e := p.r.Sample(x); e != api.ErrArg {
				t.Fatalf("P12.2: Sample(%d): error %d", x, e)
			}
			p.same("R2")
			p.sample(y)
			if e := p.r.Sample(x); e != api.ErrArg {
				t.Fatalf("P12.2: Sample(%d): error %d", x, e)
			}
			p.same("R2")
			p.back()
		}
	}
}

func TestBack(t *testing.T) {
	for _, c := range []struct {
		first, most int64
		want        []int64
	}{
		{1, 10, []int64{2, 4, 8, 10, 10, 10}},
		{5, 10, []int64{10, 10}},
		{5, 9, []int64{9, 9}},
		{5, 11, []int64{10, 11, 11}},
		{10, 10, []int64{10, 10}},
		{maxTicks / 2, maxTicks, []int64{maxTicks, maxTicks}},
		{maxTicks/2 + 1, maxTicks, []int64{maxTicks, maxTicks}},
		{maxTicks/2 - 1, maxTicks, []int64{maxTicks - 2, maxTicks}},
		{1, maxTicks, []int64{2, 4, 8, 16, 32, 64, 128, 256, 512, 1024, 2048}},
	} {
		p := made(t, c.first, 1, c.most)
		for _, want := range c.want {
			p.back()
			if got := p.r.Value(); got != want {
				t.Errorf("P12.3: from %d, at most %d: Back: %d, not %d", c.first, c.most, got, want)
			}
		}
	}
	p := made(t, 3, 1, maxTicks)
	for range 1000 { // no sum may overflow
		p.back()
	}
	p.is(maxTicks)
}

// TestSampleAfterBack: a sample computes the value anew.
func TestSampleAfterBack(t *testing.T) {
	p := made(t, 3, 1, 600)
	p.back()
	p.back()
	p.is(12)
	p.sample(1)
	p.is(3)
	p.back()
	p.back()
	p.isSmooth(1)
	p.is(12)
	p.sample(1)
	p.is(3)
	p.back()
	p.is(6)
}

// TestAllShort tries all short sequences of small times and Backs.
func TestAllShort(t *testing.T) {
	steps := []int64{0, 1, 2, 3, 5, 9, backed}
	for _, bounds := range [][3]int64{{3, 1, 60}, {4, 4, 9}} {
		for length := range 6 {
			count := 1
			for range length {
				count *= len(steps)
			}
			for n := range count {
				p := made(t, bounds[0], bounds[1], bounds[2])
				for range length {
					p.step(steps[n%len(steps)])
					n /= len(steps)
				}
			}
		}
	}
}

// TestManySteps goes far, with times of all sizes.
func TestManySteps(t *testing.T) {
	random := rand.New(rand.NewSource(12))
	for _, bounds := range runs() {
		for range 40 {
			p := made(t, bounds[0], bounds[1], bounds[2])
			size := random.Intn(64)
			for range 300 {
				switch x := random.Intn(10); {
				case x < 2:
					p.back()
				case x == 2:
					p.sample(-random.Int63())
				case x == 3:
					p.sample(random.Int63() >> random.Intn(63))
				default:
					p.sample(random.Int63() >> (63 - size))
				}
			}
		}
	}
}

// TestSameTimes: the value comes to at most three beyond a time that is always the same, and stays.
func TestSameTimes(t *testing.T) {
	var times []int64
	for x := range int64(300) {
		times = append(times, x)
	}
	times = append(times, 999, 1000, 59999, 65535, 65536, 524287, 524288, 1000000, maxTicks-4, maxTicks-3, maxTicks-2, maxTicks-1, maxTicks)
	for _, bounds := range runs() {
		least, most := bounds[1], bounds[2]
		for _, x := range times {
			p := made(t, bounds[0], least, most)
			for range 100 {
				p.sample(x)
			}
			value := p.r.Value()
			if value < min(max(x+1, least), most) || value > min(max(x+3, least), most) {
				t.Fatalf("P12.4: from %d to %d: always %d: Value: %d", least, most, x, value)
			}
			for range 20 {
				p.sample(x)
				if got := p.r.Value(); got != value {
					t.Fatalf("P12.4: from %d to %d: always %d: Value: %d after %d", least, most, x, got, value)
				}
			}
		}
	}
}

func TestNil(t *testing.T) {
	var r *rto.Rto
	for _, x := range []int64{math.MinInt64, -1, 0, 1, maxTicks, maxTicks + 1, math.MaxInt64} {
		if e := r.Sample(x); e != api.ErrNil {
			t.Errorf("P12.2: Sample(%d) of nil: error %d, not ErrNil", x, e)
		}
	}
	r.Back()
	if got := r.Value(); got != 0 {
		t.Errorf("P12.3: Value of nil: %d", got)
	}
	if s, any := r.Smooth(); s != 0 || any {
		t.Errorf("P12.3: Smooth of nil: %d, %v", s, any)
	}
}

// TestApart: what is done to one estimator does not show in another, and the same done twice shows the same.
func TestApart(t *testing.T) {
	one, two, still := made(t, 3, 1, 60), made(t, 3, 1, 60), made(t, 3, 1, 60)
	other := made(t, 9, 2, 20)
	for _, x := range []int64{8, 0, backed, 3, 70, backed, 1} {
		one.step(x)
		other.step(x + 1)
		still.same("R5")
		two.same("R5")
	}
	for _, x := range []int64{8, 0, backed, 3, 70, backed, 1} {
		two.step(x)
	}
	if one.r.Value() != two.r.Value() {
		t.Errorf("R5: the same twice: %d, %d", one.r.Value(), two.r.Value())
	}
	still.is(3)
}

// TestOnlyReads: Value and Smooth change nothing.
func TestOnlyReads(t *testing.T) {
	p := made(t, 3, 1, 60)
	for _, x := range []int64{8, backed, 0, 5} {
		for range 5 {
			p.same("R5")
		}
		p.step(x)
	}
}
