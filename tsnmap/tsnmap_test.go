package tsnmap_test

import (
	"math"
	"math/rand"
	"slices"
	"testing"

	"fairlead/api"
	"fairlead/tsnmap"
)

// The numbers are written out: what the document says, not what the program reads.
const (
	window   = 4096
	mostDups = 64
	isNew    = 0
	isAgain  = 1
	isFar    = 2
)

// The model: what the chapter says, word by word.

type model struct {
	cum     uint32
	arrived map[uint32]bool // beyond cum
	dups    []uint32
}

func (m *model) beyond(tsn uint32) int64 {
	return (int64(tsn) - int64(m.cum) + 1<<32) % (1 << 32)
}

func (m *model) look(tsn uint32) int {
	k := m.beyond(tsn)
	if 1 <= k && k <= window && !m.arrived[tsn] {
		return isNew
	}
	if window+1 <= k && k <= 1<<31-1 {
		return isFar
	}
	return isAgain
}

func (m *model) take(tsn uint32) int {
	what := m.look(tsn)
	if what == isNew {
		m.arrived[tsn] = true
		m.advance()
	}
	if what == isAgain && len(m.dups) < mostDups {
		m.dups = append(m.dups, tsn)
	}
	return what
}

func (m *model) advance() {
	for m.arrived[m.cum+1] {
		m.cum++
		delete(m.arrived, m.cum)
	}
}

func (m *model) forward(cum uint32) bool {
	k := m.beyond(cum)
	if k < 1 || k > window {
		return false
	}
	for tsn := range m.arrived {
		if m.beyond(tsn) <= k {
			delete(m.arrived, tsn)
		}
	}
	m.cum = cum
	m.advance()
	return true
}

func (m *model) runs() (l []api.Gap) {
	left := len(m.arrived)
	for d := 1; left > 0; d++ {
		if !m.arrived[m.cum+uint32(d)] {
			continue
		}
		left--
		if n := len(l); n > 0 && int(l[n-1].To) == d-1 {
			l[n-1].To++
		} else {
			l = append(l, api.Gap{From: uint16(d), To: uint16(d)})
		}
	}
	return l
}

func (m *model) report(gaps, dups int) api.Sack {
	s := api.Sack{Cum: m.cum}
	for i, g := range m.runs() {
		if i < gaps {
			s.Gaps = append(s.Gaps, g)
		}
	}
	for i, x := range m.dups {
		if i < dups {
			s.Dups = append(s.Dups, x)
		}
	}
	m.dups = nil
	return s
}

func equal(a, b api.Sack) bool {
	return a.Cum == b.Cum && a.Rwnd == b.Rwnd && slices.Equal(a.Gaps, b.Gaps) && slices.Equal(a.Dups, b.Dups)
}

// bases are first TSNs: some at which numbers begin again at 0 within the window, or pass the half, and others.
var bases = []uint32{0, 1, 2, 10, 65535, 1<<31 - window, 1<<31 - 1, 1 << 31, 1<<31 + 1, 1<<32 - window - 1, 1<<32 - window, 1<<32 - window + 1, 1<<32 - 100, 1<<32 - 2, 1<<32 - 1}

// edges are distances beyond the cumulative TSN at which the answer may change.
func edges() []int64 {
	return []int64{-1 << 31, -1<<31 + 1, -65536, -window - 1, -window, -window + 1, -2, -1, 0, 1, 2, window - 1, window, window + 1, window + 2, 2 * window, 65536, 1<<31 - window, 1<<31 - 2, 1<<31 - 1, 1 << 31, 1<<31 + 1, 1<<32 - 1}
}

// step is one thing that was done to a map.
type step struct {
	what string
	a, b int64
}

// pair is a map, its model, and what was done to both.
type pair struct {
	t    *testing.T
	m    *tsnmap.Map
	want *model
	done []step
}

func begin(t *testing.T, first uint32) *pair {
	t.Helper()
	p := &pair{t: t, m: tsnmap.Begin(first), want: &model{cum: first - 1, arrived: map[uint32]bool{}}}
	if p.m == nil {
		t.Fatalf("P15.1: Begin(%d): nil", first)
	}
	p.did(step{"begin", int64(first), 0})
	p.same("P15.1")
	return p
}

func (p *pair) did(s step) {
	p.done = append(p.done, s)
}

// last returns the last steps that were done.
func (p *pair) last() []step {
	return p.done[max(0, len(p.done)-20):]
}

// same checks what can be observed at little cost, and ends the test if it is not what the model says.
func (p *pair) same(promise string) {
	p.t.Helper()
	if p.m.Cum() != p.want.cum || p.m.Holes() != (len(p.want.arrived) > 0) {
		p.t.Fatalf("%s: after %v: Cum %d, Holes %v, not %d, %v", promise, p.last(), p.m.Cum(), p.m.Holes(), p.want.cum, !p.m.Holes())
	}
	if p.m.Look(p.m.Cum()) != isAgain || p.m.Look(p.m.Cum()+1) != isNew {
		p.t.Fatalf("P15.2: after %v: Look of Cum and of the next: %d, %d", p.last(), p.m.Look(p.m.Cum()), p.m.Look(p.m.Cum()+1))
	}
}

// every checks what Look says of all TSNs near the window and at the edges.
func (p *pair) every(promise string) {
	p.t.Helper()
	p.same(promise)
	for d := -9; d <= window+9; d++ {
		p.looks(promise, int64(d))
	}
	for _, d := range edges() {
		p.looks(promise, d)
	}
}

func (p *pair) looks(promise string, d int64) {
	p.t.Helper()
	tsn := p.want.cum + uint32(d)
	if got, want := p.m.Look(tsn), p.want.look(tsn); got != want {
		p.t.Fatalf("%s: after %v: Look(Cum + %d): %d, not %d", promise, p.last(), d, got, want)
	}
}

func (p *pair) take(tsn uint32) int {
	p.t.Helper()
	before, looked := p.m.Cum(), p.m.Look(tsn)
	p.did(step{"take", int64(tsn), 0})
	got, want := p.m.Take(tsn), p.want.take(tsn)
	if got != want || looked != want {
		p.t.Fatalf("P15.2: after %v: Look %d, Take %d, not %d", p.last(), looked, got, want)
	}
	p.same("P15.2")
	p.advanced(before)
	if p.m.Look(tsn) == isNew {
		p.t.Fatalf("P15.6: after %v: New again", p.last())
	}
	return got
}

// all takes the TSNs at the distances from what is the cumulative TSN now.
func (p *pair) all(distances ...int64) {
	p.t.Helper()
	cum := p.m.Cum()
	for _, d := range distances {
		p.take(cum + uint32(d))
	}
}

func (p *pair) forward(cum uint32) bool {
	p.t.Helper()
	before := p.m.Cum()
	p.did(step{"forward", int64(cum), 0})
	got, want := p.m.Forward(cum), p.want.forward(cum)
	if got != want {
		p.t.Fatalf("P15.3: after %v: %v", p.last(), got)
	}
	p.same("P15.3")
	p.advanced(before)
	if got != (p.m.Cum() != before) {
		p.t.Fatalf("P15.3: after %v: %v, the cumulative TSN from %d to %d", p.last(), got, before, p.m.Cum())
	}
	return got
}

// advanced checks that the cumulative TSN did not go back: one step leads over at most twice the window.
func (p *pair) advanced(before uint32) {
	p.t.Helper()
	if p.m.Cum()-before > 2*window {
		p.t.Fatalf("P15.6: after %v: the cumulative TSN went from %d to %d", p.last(), before, p.m.Cum())
	}
}

func (p *pair) report(gaps, dups int) api.Sack {
	p.t.Helper()
	p.did(step{"report", int64(gaps), int64(dups)})
	got, want := p.m.Report(gaps, dups), p.want.report(gaps, dups)
	if !equal(got, want) {
		p.t.Fatalf("P15.4: after %v: %v, not %v", p.last(), got, want)
	}
	p.same("P15.4")
	return got
}

// is compares a report of all there is with values that are written out.
func (p *pair) is(promise string, cum uint32, runs []api.Gap, dups []uint32) {
	p.t.Helper()
	got := p.report(math.MaxInt, math.MaxInt)
	if !equal(got, api.Sack{Cum: cum, Gaps: runs, Dups: dups}) {
		p.t.Fatalf("%s: after %v: %v, not %d, %v, %v", promise, p.last(), got, cum, runs, dups)
	}
}

// upTo returns the distances from one to another.
func upTo(from, to int64) (l []int64) {
	for d := from; d <= to; d++ {
		l = append(l, d)
	}
	return l
}

func TestExamples(t *testing.T) {
	p := begin(t, 10)
	if p.m.Cum() != 9 || p.m.Holes() {
		t.Fatalf("P15.1: Begin(10): Cum %d, Holes %v", p.m.Cum(), p.m.Holes())
	}
	if x := p.take(12); x != tsnmap.New || !p.m.Holes() {
		t.Fatalf("P15.2: Take(12): %d, Holes %v", x, p.m.Holes())
	}
	p.is("P15.4", 9, []api.Gap{{From: 3, To: 3}}, nil)
	if x := p.take(10); x != tsnmap.New || p.m.Cum() != 10 {
		t.Fatalf("P15.2: Take(10): %d, Cum %d", x, p.m.Cum())
	}
	if x := p.take(10); x != tsnmap.Again {
		t.Fatalf("P15.2: Take(10), again: %d", x)
	}
	if x := p.take(11); x != tsnmap.New || p.m.Cum() != 12 {
		t.Fatalf("P15.2: Take(11): %d, Cum %d", x, p.m.Cum())
	}
	if x := p.m.Look(12 + 4097); x != tsnmap.Far {
		t.Fatalf("P15.2: Look(12 + 4097): %d", x)
	}
	p.is("P15.4", 12, nil, []uint32{10})
	p.is("P15.4", 12, nil, nil)
	if !p.forward(20) || p.m.Cum() != 20 {
		t.Fatalf("P15.3: Forward(20): Cum %d", p.m.Cum())
	}
	if p.forward(20) || p.m.Cum() != 20 {
		t.Fatalf("P15.3: Forward(20), again: Cum %d", p.m.Cum())
	}
}

func TestConstants(t *testing.T) {
	if tsnmap.New != 0 || tsnmap.Again != 1 || tsnmap.Far != 2 {
		t.Errorf("P15.2: New %d, Again %d, Far %d", tsnmap.New, tsnmap.Again, tsnmap.Far)
	}
}

func TestBegin(t *testing.T) {
	for _, first := range bases {
		p := begin(t, first)
		if p.m.Cum() != first-1 || p.m.Holes() {
			t.Errorf("P15.1: Begin(%d): Cum %d, Holes %v", first, p.m.Cum(), p.m.Holes())
		}
		p.every("P15.1")
		p.is("P15.1", first-1, nil, nil)
	}
}

// TestLook tells what each distance is, for a new map and after some TSNs have arrived.
func TestLook(t *testing.T) {
	for _, first := range bases {
		p := begin(t, first)
		for _, c := range []struct {
			d    int64
			want int
		}{
			{0, isAgain}, {1, isNew}, {2, isNew}, {4095, isNew}, {4096, isNew}, {4097, isFar}, {4098, isFar}, {65536, isFar}, {65537, isFar}, {1 << 30, isFar},
			{1<<31 - 2, isFar}, {1<<31 - 1, isFar}, {1 << 31, isAgain}, {1<<31 + 1, isAgain}, {-65536, isAgain}, {-4097, isAgain}, {-4096, isAgain}, {-2, isAgain}, {-1, isAgain},
		} {
			if got := p.m.Look(p.m.Cum() + uint32(c.d)); got != c.want {
				t.Errorf("P15.2: Begin(%d): Look(Cum + %d): %d, not %d", first, c.d, got, c.want)
			}
		}
		p.all(2, 3, 7, window)
		p.every("P15.2")
		p.all(1)
		p.every("P15.2")
		p.forward(first + 10)
		p.every("P15.2")
	}
}

// TestTakeOfOne: every kind of distance by itself, twice.
func TestTakeOfOne(t *testing.T) {
	for _, first := range bases {
		for _, d := range append(edges(), upTo(-3, 9)...) {
			p := begin(t, first)
			tsn := first - 1 + uint32(d)
			var runs []api.Gap
			var dups []uint32
			cum := first - 1
			switch what := p.take(tsn); {
			case what == isAgain:
				dups = []uint32{tsn, tsn}
			case what == isNew && d == 1:
				cum, dups = first, []uint32{tsn}
			case what == isNew:
				runs, dups = []api.Gap{{From: uint16(d), To: uint16(d)}}, []uint32{tsn}
			}
			p.take(tsn)
			p.every("P15.2")
			p.is("P15.2", cum, runs, dups)
		}
	}
}

// TestAdvance: the cumulative TSN is the last one up to which all have arrived.
func TestAdvance(t *testing.T) {
	for _, first := range bases {
		for _, c := range []struct {
			what  string
			taken []int64
			cum   uint32
			runs  []api.Gap
		}{
			{"the first", []int64{1}, 1, nil},
			{"the second alone", []int64{2}, 0, []api.Gap{{From: 2, To: 2}}},
			{"both", []int64{1, 2}, 2, nil},
			{"both, the second first", []int64{2, 1}, 2, nil},
			{"a hole that is filled at its end", []int64{1, 4, 3}, 1, []api.Gap{{From: 2, To: 3}}},
			{"a hole that is filled", []int64{1, 4, 3, 2}, 4, nil},
			{"one of two holes filled", []int64{2, 4, 5, 1}, 2, []api.Gap{{From: 2, To: 3}}},
			{"both", []int64{2, 4, 5, 1, 3}, 5, nil},
			{"the end of the window", []int64{window}, 0, []api.Gap{{From: window, To: window}}},
			{"all, backwards", reversed(upTo(1, window)), window, nil},
			{"all but the first", upTo(2, window), 0, []api.Gap{{From: 2, To: window}}},
			{"all, the first last", append(upTo(2, window), 1), window, nil},
			{"far more than the window, in order", upTo(1, 3*window), 3 * window, nil},
		} {
			p := begin(t, first)
			p.all(c.taken...)
			p.every("P15.2: " + c.what)
			p.is("P15.2: "+c.what, first-1+c.cum, c.runs, nil)
		}
	}
}

func reversed(l []int64) []int64 {
	slices.Reverse(l)
	return l
}

// TestWindowMoves: what was too far is New as soon as the cumulative TSN has advanced so far.
func TestWindowMoves(t *testing.T) {
	for _, first := range bases {
		p := begin(t, first)
		end := first - 1 + window + 1
		if p.take(end) != isFar || p.m.Holes() {
			t.Fatalf("P15.2: Begin(%d): a TSN beyond by 4097 was taken", first)
		}
		p.all(1)
		if p.take(end) != isNew || !p.m.Holes() {
			t.Fatalf("P15.2: Begin(%d): a TSN beyond by 4096 was not taken", first)
		}
		if p.take(end+1) != isFar {
			t.Fatalf("P15.2: Begin(%d): a TSN beyond by 4097 was taken", first)
		}
		p.is("P15.2", first, []api.Gap{{From: window, To: window}}, nil) // what is Far is no duplicate
	}
}

// TestDups: they are listed in the order in which they came, as often as they came, wherever they are.
func TestDups(t *testing.T) {
	for _, first := range bases {
		p := begin(t, first)
		cum := first - 1
		p.all(1, 2, 5, 6, 9)
		cum += 2
		again := []uint32{cum + 3, cum, cum - 1, cum - 7, cum, cum + 4, cum + 1<<31, cum + 7, cum - 1<<30, cum}
		for _, x := range again {
			if p.take(x) != isAgain {
				t.Fatalf("P15.2: Begin(%d): Take(Cum + %d)", first, int32(x-cum))
			}
		}
		p.every("P15.2")
		p.is("P15.4", cum, []api.Gap{{From: 3, To: 4}, {From: 7, To: 7}}, again)
		p.is("P15.4", cum, []api.Gap{{From: 3, To: 4}, {From: 7, To: 7}}, nil)
		p.take(cum)
		p.is("P15.4", cum, []api.Gap{{From: 3, To: 4}, {From: 7, To: 7}}, []uint32{cum})
	}
}

// TestMostDups: after 64 no more are listed, until a report empties the list.
func TestMostDups(t *testing.T) {
	for _, n := range []int{1, 63, 64, 65, 66, 127, 128, 129, 1000} {
		p := begin(t, 1<<32-20)
		for range 3 {
			var want []uint32
			for i := range n {
				x := p.m.Cum() - uint32(i)
				if p.take(x) != isAgain {
					t.Fatalf("P15.2: Take of duplicate %d: not Again", i)
				}
				if i < mostDups {
					want = append(want, x)
				}
			}
			p.is("P15.2", 1<<32-21, nil, want)
		}
	}
}

// TestReportOfDups: the first of them, up to the limit; those beyond it are forgotten too.
func TestReportOfDups(t *testing.T) {
	for _, most := range []int{math.MinInt, math.MinInt + 1, -1 << 32, -65, -64, -1, 0, 1, 2, 4, 5, 6, 63, 64, 65, 1 << 16, 1 << 32, math.MaxInt - 1, math.MaxInt} {
		for _, n := range []uint32{0, 1, 2, 5, 63, 64} {
			p := begin(t, 7)
			for x := range n {
				p.take(x - 100)
			}
			s := p.report(9, most)
			if want := max(0, min(most, int(n))); len(s.Dups) != want || want > 0 && s.Dups[want-1] != uint32(want)-101 {
				t.Fatalf("P15.4: Report(9, %d) with %d duplicates: %v", most, n, s.Dups)
			}
			p.is("P15.4", 6, nil, nil)
			p.take(1)
			p.is("P15.4", 6, nil, []uint32{1})
		}
	}
}

// TestReportOfRuns: the first of them, up to the limit; those beyond it are not forgotten.
func TestReportOfRuns(t *testing.T) {
	runs := []api.Gap{{From: 2, To: 2}, {From: 4, To: 6}, {From: 255, To: 257}, {From: 4095, To: 4096}}
	for _, first := range bases {
		for _, most := range []int{math.MinInt, -1 << 32, -1, 0, 1, 2, 3, 4, 5, 1 << 16, 1 << 32, math.MaxInt} {
			p := begin(t, first)
			p.all(4096, 256, 255, 6, 2, 4, 5, 257, 4095)
			s := p.report(most, 9)
			if want := runs[:max(0, min(most, len(runs)))]; !slices.Equal(s.Gaps, want) || s.Cum != first-1 || s.Rwnd != 0 {
				t.Fatalf("P15.4: Begin(%d): Report(%d, 9): %v", first, most, s)
			}
			p.is("P15.4", first-1, runs, nil)
		}
	}
}

// TestManyRuns: the most that there can be.
func TestManyRuns(t *testing.T) {
	p := begin(t, 1<<32-999)
	var want []api.Gap
	for d := int64(2); d <= window; d += 2 {
		p.all(d)
		want = append(want, api.Gap{From: uint16(d), To: uint16(d)})
	}
	for _, most := range []int{0, 1, 2047, 2048, 2049} {
		if s := p.report(most, 0); !slices.Equal(s.Gaps, want[:min(most, 2048)]) {
			t.Fatalf("P15.4: Report(%d, 0): %d runs", most, len(s.Gaps))
		}
	}
	p.is("P15.4", 1<<32-1000, want, nil)
}

func TestForward(t *testing.T) {
	for _, first := range bases {
		for _, c := range []struct {
			what  string
			taken []int64
			to    uint32
			cum   uint32
			runs  []api.Gap
		}{
			{"by one", nil, 1, 1, nil},
			{"by the window", nil, window, window, nil},
			{"to one that arrived", []int64{5}, 5, 5, nil},
			{"before one that arrived", []int64{5}, 4, 5, nil},
			{"two before it", []int64{5}, 3, 3, []api.Gap{{From: 2, To: 2}}},
			{"past it", []int64{5}, 6, 6, nil},
			{"into a run", []int64{5, 6, 7, 9}, 6, 7, []api.Gap{{From: 2, To: 2}}},
			{"before a run, past another", []int64{2, 3, 6, 7, 9}, 5, 7, []api.Gap{{From: 2, To: 2}}},
			{"between runs", []int64{2, 3, 6, 7, 9}, 4, 4, []api.Gap{{From: 2, To: 3}, {From: 5, To: 5}}},
			{"before all but the first", upTo(2, window), 1, window, nil},
			{"to the end, past all but the first", upTo(2, window), window, window, nil},
			{"before the last", []int64{window}, window - 1, window, nil},
		} {
			p := begin(t, first)
			p.all(c.taken...)
			p.take(first - 1)
			if !p.forward(first - 1 + c.to) {
				t.Fatalf("P15.3: Begin(%d): Forward %s: false", first, c.what)
			}
			p.every("P15.3: " + c.what)
			p.is("P15.3: "+c.what, first-1+c.cum, c.runs, []uint32{first - 1}) // the duplicates stay
		}
	}
}

// TestSkipped: TSNs that were skipped are not New any more; if they arrive, they are duplicates.
func TestSkipped(t *testing.T) {
	for _, first := range bases {
		p := begin(t, first)
		p.all(2)
		p.forward(first + 3)
		for _, x := range []uint32{first + 3, first + 2, first, first + 1} {
			if p.take(x) != isAgain {
				t.Fatalf("P15.3: Begin(%d): Take of a TSN that was skipped: not Again", first)
			}
		}
		p.is("P15.3", first+3, nil, []uint32{first + 3, first + 2, first, first + 1})
	}
}

// TestForwardRefused: it changes nothing, neither runs nor duplicates.
func TestForwardRefused(t *testing.T) {
	for _, first := range bases {
		p := begin(t, first)
		for _, d := range edges() {
			if d >= 1 && d <= window {
				continue
			}
			p.all(2, 4, 0, 4, -3, window)
			cum := p.m.Cum()
			if p.forward(cum + uint32(d)) {
				t.Fatalf("P15.3: Begin(%d): Forward(Cum + %d): true", first, d)
			}
			p.every("P15.3")
			if s := p.report(9, 2); len(s.Dups) != 2 || len(s.Gaps) != 3 {
				t.Fatalf("P15.3: Begin(%d): after Forward(Cum + %d): %v", first, d, s)
			}
		}
	}
}

// TestForwardOften leads over the end of the numbers many windows long.
func TestForwardOften(t *testing.T) {
	p := begin(t, 1<<32-100*window-50)
	for range 200 {
		p.all(3, 3)
		if !p.forward(p.m.Cum() + window) {
			t.Fatal("P15.3: Forward by the window: false")
		}
	}
	p.every("P15.3")
}

// TestEveryOrder: the cumulative TSN and the runs are the same, in whatever order the TSNs came, and each is New once.
func TestEveryOrder(t *testing.T) {
	sets := [][]int64{{1, 2, 3, 4, 5, 6}, {1, 2, 4, 5, 7, 9}, {2, 3, 4, 6, 7, 4096}, {1, 3, 5, 7, 8, 9}, {1, 2, 3, 5, 6, 8}}
	for _, set := range sets {
		for _, first := range []uint32{10, 1<<32 - 3} {
			whole := begin(t, first)
			whole.all(set...)
			want := whole.report(99, 99)
			permute(slices.Clone(set), 0, func(order []int64) {
				p := begin(t, first)
				for _, d := range order {
					if p.take(first-1+uint32(d)) != isNew {
						t.Fatalf("P15.6: %v: %d is not New", order, d)
					}
				}
				p.is("P15.6", want.Cum, want.Gaps, nil)
			})
		}
	}
}

// permute calls f with each order of l from place i on.
func permute(l []int64, i int, f func([]int64)) {
	if i == len(l) {
		f(l)
		return
	}
	for j := i; j < len(l); j++ {
		l[i], l[j] = l[j], l[i]
		permute(l, i+1, f)
		l[i], l[j] = l[j], l[i]
	}
}

// TestAnyOrder: many TSNs, shuffled, some of them more than once.
func TestAnyOrder(t *testing.T) {
	r := rand.New(rand.NewSource(15))
	for range 30 {
		first := bases[r.Intn(len(bases))]
		var set []int64
		for d := int64(1); d <= window; d++ {
			if d > 50 && r.Intn(9) > 0 || d <= 50 && r.Intn(30) > 0 {
				set = append(set, d)
			}
		}
		var want api.Sack
		for i := range 3 {
			p := begin(t, first)
			news := 0
			for _, d := range append(slices.Clone(set), set[:len(set)/2]...) {
				if p.take(first-1+uint32(d)) == isNew {
					news++
				}
			}
			got := p.report(math.MaxInt, 0)
			if news != len(set) || i > 0 && !equal(got, want) {
				t.Fatalf("P15.6: Begin(%d): %d of %d TSNs were New; Cum %d", first, news, len(set), got.Cum)
			}
			want = got
			r.Shuffle(len(set), func(a, b int) { set[a], set[b] = set[b], set[a] })
		}
	}
}

// TestShift: the same distances from another first TSN give the same answers.
func TestShift(t *testing.T) {
	for _, first := range bases {
		p, q := begin(t, 5000), begin(t, first)
		for _, d := range []int64{3, 3, 1, 0, 9, 2, 4096, 4097, -1, 1 << 31, 1<<31 - 1, 7, 5} {
			if a, b := p.take(4999+uint32(d)), q.take(first-1+uint32(d)); a != b {
				t.Fatalf("P15.2: distance %d: %d from 5000, %d from %d", d, a, b, first)
			}
		}
		a, b := p.report(9, 9), q.report(9, 9)
		if a.Cum-4999 != b.Cum-(first-1) || !slices.Equal(a.Gaps, b.Gaps) || len(a.Dups) != len(b.Dups) {
			t.Fatalf("P15.4: %v from 5000, %v from %d", a, b, first)
		}
	}
}

// TestEveryShortSequence does all sequences of five steps out of ten.
func TestEveryShortSequence(t *testing.T) {
	const kinds, length = 10, 5
	const first = 1<<32 - 2
	total := 1
	for range length {
		total *= kinds
	}
	for n := range total {
		p := begin(t, first)
		for range length {
			switch k := n % kinds; {
			case k < 5:
				p.take(first - 1 + uint32(k))
			case k < 9:
				p.forward(first - 1 + uint32(k-4))
			default:
				p.report(1, 1)
			}
			n /= kinds
		}
		for d := int64(-2); d <= 8; d++ {
			p.looks("P15.2", d)
		}
		p.report(9, 9)
	}
}

// TestRandomSteps compares with the model over long ways.
func TestRandomSteps(t *testing.T) {
	r := rand.New(rand.NewSource(1515))
	for _, first := range bases {
		for _, spread := range []int{3, 20, 300, window, 2 * window} {
			p := begin(t, first)
			for range 600 {
				near := p.m.Cum() + uint32(r.Intn(spread+4)-3)
				switch k := r.Intn(40); {
				case k < 32:
					p.take(near)
				case k < 34:
					p.forward(near)
				case k == 34:
					p.forward(p.m.Cum() + uint32(edges()[r.Intn(len(edges()))]))
				case k == 35:
					p.take(p.m.Cum() + uint32(edges()[r.Intn(len(edges()))]))
				case k == 36:
					p.take(r.Uint32())
				case k == 37:
					p.forward(r.Uint32())
				default:
					p.report(r.Intn(9)-2, r.Intn(80)-2)
				}
				p.looks("P15.2", int64(r.Intn(2*spread)-spread/2))
			}
			p.every("P15.2")
			p.report(math.MaxInt, math.MaxInt)
		}
	}
}

// TestNil: a nil map is asked all that a map is.
func TestNil(t *testing.T) {
	var m *tsnmap.Map
	for _, tsn := range []uint32{0, 1, window, window + 1, 1<<31 - 1, 1 << 31, 1<<32 - 1} {
		if m.Look(tsn) != tsnmap.Far || m.Take(tsn) != tsnmap.Far || m.Forward(tsn) {
			t.Errorf("P15.5: a nil map: %d: Look %d, Take %d, Forward %v", tsn, m.Look(tsn), m.Take(tsn), m.Forward(tsn))
		}
	}
	if m.Cum() != 0 || m.Holes() {
		t.Errorf("P15.5: a nil map: Cum %d, Holes %v", m.Cum(), m.Holes())
	}
	for _, n := range []int{math.MinInt, -1, 0, 1, math.MaxInt} {
		if s := m.Report(n, n); !equal(s, api.Sack{}) {
			t.Errorf("P15.5: a nil map: Report(%d, %d): %v", n, n, s)
		}
	}
}

// TestOnlyReads: Look, Cum and Holes leave everything as it is.
func TestOnlyReads(t *testing.T) {
	for _, first := range bases {
		p := begin(t, first)
		p.all(2, 3, 3, 0, 9)
		for range 100 {
			for _, d := range append(edges(), 3, 9) {
				p.m.Look(first - 1 + uint32(d))
				p.m.Cum()
				p.m.Holes()
			}
		}
		p.every("P15.2")
		p.is("P15.2", first-1, []api.Gap{{From: 2, To: 3}, {From: 9, To: 9}}, []uint32{first + 2, first - 1})
	}
}

// TestApart: what is done to one map is not seen by another.
func TestApart(t *testing.T) {
	p, q, s := begin(t, 100), begin(t, 100), begin(t, 1<<32-1)
	p.all(1, 1, 5)
	q.every("R5")
	q.all(2, 0, 0)
	s.forward(40)
	p.every("R5")
	q.every("R5")
	s.every("R5")
	p.is("R5", 100, []api.Gap{{From: 4, To: 4}}, []uint32{100})
	q.is("R5", 99, []api.Gap{{From: 2, To: 2}}, []uint32{99, 99})
	s.is("R5", 40, nil, nil)
}

// TestOwnMemory: a report shares no memory with the map, nor with another report.
func TestOwnMemory(t *testing.T) {
	p := begin(t, 10)
	p.all(2, 4, 2, 4, 0)
	one := p.report(9, 9)
	p.all(4, 0, 2)
	two := p.report(9, 2)
	p.all(0)
	for _, l := range [][]uint32{one.Dups, two.Dups} {
		l = l[:cap(l)]
		for i := range l {
			l[i] = 777
		}
	}
	for i := range one.Gaps[:cap(one.Gaps)] {
		one.Gaps[:cap(one.Gaps)][i] = api.Gap{From: 7, To: 7}
	}
	if !slices.Equal(two.Gaps, []api.Gap{{From: 2, To: 2}, {From: 4, To: 4}}) {
		t.Errorf("R3: a report was changed through another one: %v", two.Gaps)
	}
	p.every("R3")
	p.is("R3", 9, []api.Gap{{From: 2, To: 2}, {From: 4, To: 4}}, []uint32{9})
	three := p.report(9, 9)
	p.all(0, 0, 0)
	four := p.report(9, 9)
	p.all(4, 4, 4)
	if len(three.Dups) != 0 || !slices.Equal(four.Dups, []uint32{9, 9, 9}) {
		t.Errorf("R3: a report was changed by what came after it: %v", four.Dups)
	}
}
