package path_test

import (
	"math"
	"math/rand"
	"testing"

	"fairlead/api"
	"fairlead/path"
	"fairlead/rto"
	"fairlead/window"
)

// The limits are written out: what the document says, not what the program reads.
const (
	mostRetrans = 20
	maxTicks    = 1048576
	latest      = 2305843009213693952
)

// The model: what the chapter says, word by word, over an estimator and a window of its own.

type model struct {
	estimator      *rto.Rto
	window         *window.Window
	retrans, fails int
	beat, next     int64
	open           bool
	row            int // timeouts and unanswered heartbeats since the last answer, without a limit
}

func (m *model) active() bool { return m.fails <= m.retrans }

func (m *model) answered() {
	m.fails, m.row = 0, 0
	m.open = false
}

func (m *model) count() {
	m.row++
	if m.fails <= m.retrans {
		m.fails++
	}
}

func (m *model) timeout() bool {
	before := m.active()
	m.window.Timeout()
	m.estimator.Back()
	m.count()
	return before && !m.active()
}

func (m *model) beats(now int64) bool {
	if now < m.next {
		return false
	}
	if m.open {
		m.count()
		m.estimator.Back()
	}
	m.open = true
	m.next = now
	if now > latest {
		m.next = latest
	}
	m.next += m.estimator.Value()
	m.next += m.beat
	return true
}

func (m *model) beaten(sent, now int64) bool {
	if !m.open {
		return false
	}
	if sent < 0 || now < sent {
		return false
	}
	m.answered()
	m.estimator.Sample(now - sent)
	return true
}

// step is a call of the method of that name, with as many of the numbers as it takes; Acked has 1 for full.
type step struct {
	name string
	a, b int64
}

// pair is a path, its model, and what was done to both.
type pair struct {
	t    *testing.T
	p    *path.Path
	m    model
	c    api.Config
	done []step
}

// config of the chapter's examples.
func config() api.Config {
	return api.Config{RtoInit: 3, RtoMin: 1, RtoMax: 60, Mtu: 128, Cap: 1000, Retrans: 1, Beat: 10}
}

func made(t *testing.T, c api.Config, now int64) *pair {
	t.Helper()
	p, e := path.New(c, now)
	if e != api.OK || p == nil {
		t.Fatalf("P14.1: New(%v, %d): %v, error %d", c, now, p, e)
	}
	estimator, _ := rto.New(c.RtoInit, c.RtoMin, c.RtoMax)
	flow, _ := window.New(c.Mtu, c.Cap)
	x := &pair{t: t, p: p, c: c, m: model{estimator: estimator, window: flow, retrans: c.Retrans, beat: c.Beat, next: now + c.Beat}}
	x.same("P14.1")
	return x
}

// with returns a path of the examples' config, but for Retrans, at the time 0.
func with(t *testing.T, retrans int) *pair {
	t.Helper()
	c := config()
	c.Retrans = retrans
	return made(t, c, 0)
}

// same checks everything that can be observed, and ends the test if it is not what the model says.
func (x *pair) same(promise string) {
	x.t.Helper()
	active, fails, timeout, size, when := x.p.Active(), x.p.Failures(), x.p.Rto(), x.p.Size(), x.p.When()
	m := &x.m
	if active != m.active() || fails != m.fails || timeout != m.estimator.Value() || size != m.window.Size() || when != m.next {
		x.t.Fatalf("%s: New(%v), after %v: %v, %d failures, Rto %d, Size %d, When %d, not %v, %d, %d, %d, %d", promise, x.c, x.last(), active, fails, timeout, size, when, m.active(), m.fails, m.estimator.Value(), m.window.Size(), m.next)
	}
	if active != (m.row <= x.c.Retrans) {
		x.t.Fatalf("P14.6: New(%v), after %v: active is %v after %d failures in a row", x.c, x.last(), active, m.row)
	}
}

// is compares everything with values that are written out.
func (x *pair) is(promise string, active bool, fails int, timeout int64, size int, when int64) {
	x.t.Helper()
	if x.p.Active() != active || x.p.Failures() != fails || x.p.Rto() != timeout || x.p.Size() != size || x.p.When() != when {
		x.t.Fatalf("%s: New(%v), after %v: %v, %d failures, Rto %d, Size %d, When %d, not %v, %d, %d, %d, %d", promise, x.c, x.last(), x.p.Active(), x.p.Failures(), x.p.Rto(), x.p.Size(), x.p.When(), active, fails, timeout, size, when)
	}
}

// last returns the last steps that were done.
func (x *pair) last() []step {
	return x.done[max(0, len(x.done)-20):]
}

// do does a step to the path and to the model, and returns what the path answered.
func (x *pair) do(name string, numbers ...int64) bool {
	x.t.Helper()
	numbers = append(numbers, 0, 0)
	a, b := numbers[0], numbers[1]
	x.done = append(x.done, step{name, a, b})
	p, m := x.p, &x.m
	var got, want bool
	promise := "P14.2"
	switch name {
	case "Answered":
		p.Answered()
		m.answered()
	case "Sample":
		p.Sample(a)
		m.estimator.Sample(a)
	case "Acked":
		p.Acked(int(a), b == 1)
		m.window.Acked(int(a), b == 1)
	case "Fast":
		p.Fast()
		m.window.Fast()
	case "Timeout":
		promise = "P14.3"
		got, want = p.Timeout(), m.timeout()
	case "Beat":
		promise = "P14.4"
		got, want = p.Beat(a), m.beats(a)
	case "Beaten":
		promise = "P14.5"
		got, want = p.Beaten(a, b), m.beaten(a, b)
	default:
		x.t.Fatalf("no step %s", name)
	}
	if got != want {
		x.t.Fatalf("%s: New(%v), after %v: %v, not %v", promise, x.c, x.last(), got, want)
	}
	x.same(promise)
	return got
}

// gives does a step and compares what the path answered with what is written out.
func (x *pair) gives(want bool, name string, numbers ...int64) {
	x.t.Helper()
	if got := x.do(name, numbers...); got != want {
		x.t.Fatalf("New(%v), after %v: %v, not %v", x.c, x.last(), got, want)
	}
}

func TestExamples(t *testing.T) {
	x := made(t, config(), 5)
	x.is("P14.1", true, 0, 3, 256, 15)
	x.gives(false, "Beat", 14)
	x.is("P14.4", true, 0, 3, 256, 15)
	x.gives(true, "Beat", 15)
	x.is("P14.4", true, 0, 3, 256, 28)
	x.gives(true, "Beat", 28)
	x.is("P14.4", true, 1, 6, 256, 44)
	x.gives(true, "Timeout")
	x.is("P14.3", false, 2, 12, 128, 44)
	x.gives(true, "Beaten", 28, 30)
	x.is("P14.5", true, 0, 6, 128, 44)
}

// TestNew tries each bound of the arguments from both sides.
func TestNew(t *testing.T) {
	for _, now := range []int64{0, 1, 5, maxTicks, 1 << 32, latest - 1, latest} {
		made(t, config(), now)
	}
	for _, change := range []func(*api.Config){
		func(c *api.Config) { c.Retrans = 0 },
		func(c *api.Config) { c.Retrans = mostRetrans },
		func(c *api.Config) { c.Beat = 1 },
		func(c *api.Config) { c.Beat = maxTicks },
		func(c *api.Config) { c.RtoInit = 1 },
		func(c *api.Config) { c.RtoInit = 60 },
		func(c *api.Config) { c.RtoMax = maxTicks },
		func(c *api.Config) { c.RtoInit, c.RtoMin, c.RtoMax = maxTicks, maxTicks, maxTicks },
		func(c *api.Config) { c.Cap = 512 },
		func(c *api.Config) { c.Cap = 1 << 24 },
		func(c *api.Config) { c.Mtu, c.Cap = 1500, 6000 },
		func(c *api.Config) { c.Paths, c.Streams, c.SendRoom, c.RecvRoom, c.Tries = -1, 1<<40, -1, 1<<40, -1 },
		func(c *api.Config) { c.Delay, c.Life = -1, math.MaxInt64 },
	} {
		c := config()
		change(&c)
		made(t, c, 7).is("P14.1", true, 0, c.RtoInit, 2*c.Mtu, 7+c.Beat)
	}
	c := config()
	c.Beat = maxTicks
	made(t, c, latest).is("P14.1", true, 0, 3, 256, latest+maxTicks)
}

func TestNewWrong(t *testing.T) {
	refuses := func(c api.Config, now int64) {
		t.Helper()
		if p, e := path.New(c, now); p != nil || e != api.ErrArg {
			t.Errorf("P14.1: New(%v, %d): %v, error %d; want nil, ErrArg", c, now, p, e)
		}
	}
	refuses(api.Config{}, 0)
	for _, now := range []int64{-1, math.MinInt64, latest + 1, math.MaxInt64} {
		refuses(config(), now)
	}
	for _, change := range []func(*api.Config){
		func(c *api.Config) { c.Retrans = -1 },
		func(c *api.Config) { c.Retrans = math.MinInt },
		func(c *api.Config) { c.Retrans = mostRetrans + 1 },
		func(c *api.Config) { c.Retrans = math.MaxInt },
		func(c *api.Config) { c.Beat = 0 },
		func(c *api.Config) { c.Beat = -1 },
		func(c *api.Config) { c.Beat = math.MinInt64 },
		func(c *api.Config) { c.Beat = maxTicks + 1 },
		func(c *api.Config) { c.Beat = math.MaxInt64 },
		func(c *api.Config) { c.RtoInit = 0 },
		func(c *api.Config) { c.RtoInit = 61 },
		func(c *api.Config) { c.RtoMin = 0 },
		func(c *api.Config) { c.RtoMin = 4 },
		func(c *api.Config) { c.RtoMax = 2 },
		func(c *api.Config) { c.RtoMax = maxTicks + 1 },
		func(c *api.Config) { c.Mtu = 127 },
		func(c *api.Config) { c.Mtu, c.Cap = 1501, 1<<24 },
		func(c *api.Config) { c.Cap = 511 },
		func(c *api.Config) { c.Cap = 1<<24 + 1 },
	} {
		c := config()
		change(&c)
		refuses(c, 0)
	}
}

// TestFresh: a new path has no open heartbeat, so none can be answered and none has failed.
func TestFresh(t *testing.T) {
	x := made(t, config(), 5)
	x.gives(false, "Beaten", 5, 5)
	x.gives(false, "Beaten", 0, 30)
	x.is("P14.1", true, 0, 3, 256, 15)
	x.gives(true, "Beat", 15)
	x.is("P14.1", true, 0, 3, 256, 28)
}

// TestTimeout: a path fails Retrans + 1 times before it is inactive, which is told once, and counts no further.
func TestTimeout(t *testing.T) {
	for retrans := range mostRetrans + 1 {
		x := with(t, retrans)
		for range 3 {
			for k := range retrans {
				x.gives(false, "Timeout")
				if x.p.Failures() != k+1 || !x.p.Active() {
					t.Fatalf("P14.3: Retrans %d: %d failures after %d, active is %v", retrans, x.p.Failures(), k+1, x.p.Active())
				}
			}
			x.gives(true, "Timeout")
			for range 5 {
				if x.p.Failures() != retrans+1 || x.p.Active() {
					t.Fatalf("P14.3: Retrans %d: %d failures, active is %v", retrans, x.p.Failures(), x.p.Active())
				}
				x.gives(false, "Timeout")
			}
			x.do("Answered")
			if x.p.Failures() != 0 || !x.p.Active() {
				t.Fatalf("P14.2: Retrans %d: %d failures after Answered, active is %v", retrans, x.p.Failures(), x.p.Active())
			}
		}
	}
}

// TestTimeoutNarrows: a timeout narrows the window, has the next answer awaited for longer, and moves no heartbeat.
func TestTimeoutNarrows(t *testing.T) {
	x := made(t, config(), 5)
	x.do("Acked", 100, 1)
	x.is("P14.2", true, 0, 3, 356, 15)
	x.gives(false, "Timeout")
	x.is("P14.3", true, 1, 6, 128, 15)
	x.gives(true, "Timeout")
	x.is("P14.3", false, 2, 12, 128, 15)
	for _, timeout := range []int64{24, 48, 60, 60} {
		x.gives(false, "Timeout")
		x.is("P14.3", false, 2, timeout, 128, 15)
	}
	x.do("Acked", 100, 1)
	x.is("P14.2", false, 2, 60, 228, 15)
}

// TestTimeoutKeepsHeartbeat: an open heartbeat stays open through a timeout.
func TestTimeoutKeepsHeartbeat(t *testing.T) {
	x := with(t, 5)
	x.gives(true, "Beat", 10)
	x.is("P14.4", true, 0, 3, 256, 23)
	x.gives(false, "Timeout")
	x.is("P14.3", true, 1, 6, 128, 23)
	x.gives(true, "Beat", 23)
	x.is("P14.4", true, 2, 12, 128, 45)
	x.gives(false, "Timeout")
	x.gives(true, "Beaten", 23, 24)
	x.is("P14.5", true, 0, 3, 128, 45)
}

// TestAnswered: an answer forgets the failures and closes the heartbeat, and leaves everything else.
func TestAnswered(t *testing.T) {
	x := with(t, 1)
	x.do("Answered")
	x.is("P14.2", true, 0, 3, 256, 10)
	x.do("Timeout")
	x.do("Answered")
	x.is("P14.2", true, 0, 6, 128, 10)
	x.gives(true, "Beat", 10)
	x.is("P14.4", true, 0, 6, 128, 26)
	x.do("Answered")
	x.is("P14.2", true, 0, 6, 128, 26)
	x.gives(false, "Beaten", 10, 12)
	x.is("P14.5", true, 0, 6, 128, 26)
	x.gives(true, "Beat", 26) // the one before counts as answered
	x.is("P14.4", true, 0, 6, 128, 42)
	x.gives(true, "Beat", 42)
	x.is("P14.4", true, 1, 12, 128, 64)
}

// TestParts: Sample, Acked and Fast do what the estimator and the window do, and are no answers.
func TestParts(t *testing.T) {
	x := with(t, 1)
	x.gives(true, "Beat", 10)
	x.gives(true, "Beat", 23)
	x.is("P14.4", true, 1, 6, 256, 39)
	x.do("Sample", 8)
	x.is("P14.2", true, 1, 24, 256, 39)
	x.do("Sample", 8)
	x.is("P14.2", true, 1, 20, 256, 39)
	x.do("Sample", -1)
	x.do("Sample", math.MinInt64)
	x.is("P14.2", true, 1, 20, 256, 39)
	x.do("Sample", 0)
	x.is("P14.2", true, 1, 24, 256, 39)
	x.do("Acked", 100, 1)
	x.is("P14.2", true, 1, 24, 356, 39)
	x.do("Acked", 500, 1)
	x.is("P14.2", true, 1, 24, 484, 39)
	x.do("Acked", 9, 0)
	x.do("Acked", 0, 1)
	x.do("Acked", -1, 1)
	x.is("P14.2", true, 1, 24, 484, 39)
	x.do("Fast")
	x.is("P14.2", true, 1, 24, 484, 39)
	x.do("Acked", 128, 1)
	x.is("P14.2", true, 1, 24, 612, 39)
	x.do("Fast")
	x.is("P14.2", true, 1, 24, 512, 39)
	x.gives(true, "Beat", 39) // the heartbeat of 23 was open all the time
	x.is("P14.4", false, 2, 48, 512, 97)
	x.do("Sample", math.MaxInt64)
	x.is("P14.2", false, 2, 60, 512, 97)
}

// TestBeat: a heartbeat is due at its time and later, and the next one is counted from when it was sent.
func TestBeat(t *testing.T) {
	x := with(t, 3)
	for _, now := range []int64{math.MinInt64, -1, 0, 1, 9} {
		x.gives(false, "Beat", now)
		x.is("P14.4", true, 0, 3, 256, 10)
	}
	x.gives(true, "Beat", 100)
	x.is("P14.4", true, 0, 3, 256, 113)
	x.gives(false, "Beat", 100)
	x.gives(false, "Beat", 112)
	x.gives(false, "Beat", 50)
	x.is("P14.4", true, 0, 3, 256, 113)
	x.gives(true, "Beat", 114) // the timeout is doubled first: 114 + 6 + 10
	x.is("P14.4", true, 1, 6, 256, 130)
	x.gives(true, "Beat", 130)
	x.is("P14.4", true, 2, 12, 256, 152)
	x.gives(true, "Beat", 152)
	x.is("P14.4", true, 3, 24, 256, 186)
	x.gives(true, "Beat", 186)
	x.is("P14.4", false, 4, 48, 256, 244)
	x.gives(true, "Beat", 244) // an inactive path is still tried
	x.is("P14.4", false, 4, 60, 256, 314)
	x.gives(true, "Beat", 314)
	x.is("P14.4", false, 4, 60, 256, 384)
	x.gives(true, "Beaten", 314, 316)
	x.is("P14.5", true, 0, 6, 256, 384)
	x.gives(true, "Beat", 384)
	x.is("P14.4", true, 0, 6, 256, 400)
}

// TestBeatsInARow: unanswered heartbeats make a path inactive as timeouts do, for each Retrans.
func TestBeatsInARow(t *testing.T) {
	for retrans := range mostRetrans + 1 {
		x := with(t, retrans)
		x.gives(true, "Beat", x.p.When())
		for k := range retrans + 4 {
			x.gives(true, "Beat", x.p.When())
			if want := min(k, retrans) + 1; x.p.Failures() != want || x.p.Active() != (k < retrans) {
				t.Fatalf("P14.4: Retrans %d: %d failures, not %d, active is %v", retrans, x.p.Failures(), want, x.p.Active())
			}
		}
		x.gives(false, "Timeout") // it was inactive before
		x.gives(true, "Beaten", 0, 0)
		if x.p.Failures() != 0 || !x.p.Active() {
			t.Fatalf("P14.6: Retrans %d: %d failures after an answer, active is %v", retrans, x.p.Failures(), x.p.Active())
		}
	}
}

// TestMixedRow: timeouts and unanswered heartbeats count together.
func TestMixedRow(t *testing.T) {
	x := with(t, 2)
	x.gives(true, "Beat", 10)
	x.gives(false, "Timeout")
	x.gives(true, "Beat", 40)
	x.is("P14.6", true, 2, 12, 128, 62)
	x.gives(true, "Timeout")
	x.is("P14.6", false, 3, 24, 128, 62)
	x.gives(true, "Beat", 62)
	x.is("P14.6", false, 3, 48, 128, 120)
	x.do("Answered")
	x.is("P14.6", true, 0, 48, 128, 120)
	x.gives(false, "Timeout")
	x.gives(true, "Beat", 120)
	x.is("P14.6", true, 1, 60, 128, 190)
	x.gives(true, "Beat", 190)
	x.gives(true, "Timeout")
	x.is("P14.6", false, 3, 60, 128, 260)
}

// TestLateTimes: a time beyond the latest one counts as that, and no sum overflows.
func TestLateTimes(t *testing.T) {
	for _, now := range []int64{latest, latest + 1, latest + 13, math.MaxInt64 - 1, math.MaxInt64} {
		x := with(t, 9)
		x.gives(true, "Beat", now)
		x.is("P14.4", true, 0, 3, 256, latest+13)
		x.gives(false, "Beat", latest+12)
		x.gives(true, "Beat", math.MaxInt64)
		x.is("P14.4", true, 1, 6, 256, latest+16)
	}
	x := with(t, 9)
	x.gives(true, "Beat", latest-1)
	x.is("P14.4", true, 0, 3, 256, latest+12)
	c := config()
	c.RtoInit, c.RtoMax, c.Beat = maxTicks, maxTicks, maxTicks
	x = made(t, c, latest)
	x.gives(false, "Beat", latest+maxTicks-1)
	x.gives(true, "Beat", latest+maxTicks)
	x.is("P14.4", true, 0, maxTicks, 256, latest+2*maxTicks)
}

// TestBeaten: an open heartbeat is answered once, whenever it was sent, and the time since is a sample.
func TestBeaten(t *testing.T) {
	for _, c := range []struct {
		sent, now, timeout int64
	}{
		{0, 0, 1}, {10, 10, 1}, {10, 11, 3}, {10, 12, 6}, {28, 30, 6}, {0, 10, 30}, {0, 20, 60}, {5, 15, 30},
		{latest, latest + 3, 9}, {0, math.MaxInt64, 60}, {math.MaxInt64, math.MaxInt64, 1}, {math.MaxInt64 - 4, math.MaxInt64, 12},
	} {
		x := with(t, 1)
		x.gives(true, "Beat", 10)
		x.gives(false, "Timeout")
		x.is("P14.3", true, 1, 6, 128, 23)
		x.gives(true, "Beaten", c.sent, c.now)
		x.is("P14.5", true, 0, c.timeout, 128, 23)
		x.gives(false, "Beaten", c.sent, c.now)
		x.gives(false, "Beaten", 0, 5)
		x.is("P14.5", true, 0, c.timeout, 128, 23)
		x.gives(true, "Beat", 23)
		x.is("P14.5", true, 0, c.timeout, 128, 33+c.timeout)
	}
}

// TestBeatenWrong: what is refused changes nothing: the heartbeat stays open, and the failures stay.
func TestBeatenWrong(t *testing.T) {
	wrong := [][2]int64{{-1, -1}, {-1, 0}, {-1, 30}, {-5, -5}, {math.MinInt64, math.MaxInt64}, {math.MinInt64, math.MinInt64}, {1, 0}, {31, 30}, {0, -1}, {5, math.MinInt64}, {math.MaxInt64, 0}, {math.MaxInt64, math.MaxInt64 - 1}}
	for _, w := range wrong {
		x := with(t, 1)
		x.gives(true, "Beat", 10)
		x.gives(true, "Beat", 23)
		x.gives(false, "Beaten", w[0], w[1])
		x.is("P14.5", true, 1, 6, 256, 39)
		x.gives(true, "Beaten", 28, 30)
		x.is("P14.5", true, 0, 6, 256, 39)
		x.gives(false, "Beaten", w[0], w[1])
		x.is("P14.5", true, 0, 6, 256, 39)
	}
	x := with(t, 1)
	x.gives(true, "Beat", 10)
	for _, w := range wrong {
		x.gives(false, "Beaten", w[0], w[1])
	}
	x.gives(true, "Beat", 23)
	x.is("P14.5", true, 1, 6, 256, 39)
}

// TestRepeatedHeartbeat: however many were sent, one is open, and one answer closes it.
func TestRepeatedHeartbeat(t *testing.T) {
	x := with(t, 9)
	x.gives(true, "Beat", 10)
	x.gives(true, "Beat", 23)
	x.gives(true, "Beat", 39)
	x.is("P14.4", true, 2, 12, 256, 61)
	x.gives(true, "Beaten", 10, 41)
	x.is("P14.5", true, 0, 60, 256, 61)
	x.gives(false, "Beaten", 23, 41)
	x.gives(false, "Beaten", 39, 41)
	x.is("P14.5", true, 0, 60, 256, 61)
}

// short returns the steps that TestAllShort combines: -1 stands for the time of the next heartbeat.
func short() []step {
	return []step{{"Answered", 0, 0}, {"Sample", 4, 0}, {"Acked", 300, 1}, {"Fast", 0, 0}, {"Timeout", 0, 0}, {"Beat", 5, 0}, {"Beat", -1, 0}, {"Beaten", 3, 5}, {"Beaten", 5, 3}}
}

// TestAllShort tries all short sequences of everything that can be done, on paths that fail soon.
func TestAllShort(t *testing.T) {
	steps := short()
	for retrans := range 3 {
		for length := range 6 {
			count := 1
			for range length {
				count *= len(steps)
			}
			for n := range count {
				x := with(t, retrans)
				for range length {
					s := steps[n%len(steps)]
					if s.a < 0 {
						s.a = x.p.When()
					}
					x.do(s.name, s.a, s.b)
					n /= len(steps)
				}
			}
		}
	}
}

// TestManySteps goes far, with times that go on, and now and then with any.
func TestManySteps(t *testing.T) {
	random := rand.New(rand.NewSource(14))
	anything := func() int64 { return int64(random.Uint64() >> random.Intn(64)) }
	for round := range 2000 {
		c := api.Config{RtoInit: 3, RtoMin: 1 + int64(round%3), RtoMax: 60 << (round % 11), Mtu: 128 + round%1000, Cap: 9000, Retrans: round % 21, Beat: 1 + int64(random.Intn(100))}
		now := random.Int63n(1000)
		x := made(t, c, now)
		for range 200 {
			now += random.Int63n(30)
			switch random.Intn(16) {
			case 0:
				x.do("Answered")
			case 1:
				x.do("Sample", random.Int63n(50))
			case 2:
				x.do("Sample", anything())
			case 3, 4:
				x.do("Acked", random.Int63n(2000), random.Int63n(2))
			case 5:
				x.do("Acked", anything(), 1)
			case 6:
				x.do("Fast")
			case 7, 8:
				x.do("Timeout")
			case 9, 10, 11:
				x.do("Beat", now)
			case 12, 13:
				x.do("Beat", x.p.When()-random.Int63n(2))
			case 14:
				x.do("Beaten", now-random.Int63n(40), now-random.Int63n(10))
			case 15:
				x.do("Beaten", anything(), anything())
			}
		}
		x.do("Beat", anything())
		x.do("Beat", math.MaxInt64)
	}
}

func TestNil(t *testing.T) {
	var p *path.Path
	for _, n := range []int64{math.MinInt64, -1, 0, 1, maxTicks, latest, math.MaxInt64} {
		p.Answered()
		p.Sample(n)
		p.Acked(int(n), true)
		p.Acked(int(n), false)
		p.Fast()
		if p.Timeout() || p.Beat(n) || p.Beaten(n, n) || p.Beaten(0, n) {
			t.Errorf("R4: nil: Timeout, Beat(%d) or Beaten(%d) is true", n, n)
		}
		if p.Active() || p.Failures() != 0 || p.Rto() != 0 || p.Size() != 0 || p.When() != 0 {
			t.Errorf("P14.1: nil: %v, %d failures, Rto %d, Size %d, When %d", p.Active(), p.Failures(), p.Rto(), p.Size(), p.When())
		}
	}
}

// TestApart: what is done to one path does not show in another, and the same done twice shows the same.
func TestApart(t *testing.T) {
	steps := []step{{"Beat", 15, 0}, {"Acked", 100, 1}, {"Timeout", 0, 0}, {"Beat", 40, 0}, {"Sample", 7, 0}, {"Fast", 0, 0}, {"Beaten", 40, 44}, {"Timeout", 0, 0}, {"Answered", 0, 0}, {"Beat", 99, 0}}
	one, two, still := made(t, config(), 5), made(t, config(), 5), made(t, config(), 5)
	for _, s := range steps {
		one.do(s.name, s.a, s.b)
		two.same("R5")
		still.same("R5")
	}
	for _, s := range steps {
		two.do(s.name, s.a, s.b)
	}
	one.is("R5", two.p.Active(), two.p.Failures(), two.p.Rto(), two.p.Size(), two.p.When())
	still.is("R5", true, 0, 3, 256, 15)
}

// TestOnlyReads: what returns a value changes nothing.
func TestOnlyReads(t *testing.T) {
	x := made(t, config(), 5)
	for _, s := range short() {
		for range 5 {
			x.same("R5")
		}
		x.do(s.name, s.a, s.b)
	}
}
