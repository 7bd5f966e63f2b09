package spans_test

import (
	"math"
	"math/rand"
	"slices"
	"testing"

	"fairlead/api"
	"fairlead/spans"
)

// window is written out: what the document says, not what the program reads.
const window = 4096

// model is the same set, told by distances: at[d] says whether the number at distance d is a member. at[0] is unused.
type model struct {
	base uint32
	at   [window + 1]bool
}

func (m *model) add(x uint32) bool {
	d := x - m.base
	if d < 1 || d > window || m.at[d] {
		return false
	}
	m.at[d] = true
	return true
}

func (m *model) has(x uint32) bool {
	d := x - m.base
	return d >= 1 && d <= window && m.at[d]
}

func (m *model) count() (n int) {
	for _, in := range m.at {
		if in {
			n++
		}
	}
	return n
}

func (m *model) last() uint32 {
	for d := window; d > 0; d-- {
		if m.at[d] {
			return m.base + uint32(d)
		}
	}
	return m.base
}

// shift advances the base by n, over members and others.
func (m *model) shift(n int) {
	var at [window + 1]bool
	copy(at[1:], m.at[n+1:])
	m.base += uint32(n)
	m.at = at
}

func (m *model) settle() (n int) {
	for n < window && m.at[n+1] {
		n++
	}
	m.shift(n)
	return n
}

func (m *model) move(to uint32) int {
	d := to - m.base
	if d < 1 || d > window {
		return 0
	}
	m.shift(int(d))
	return int(d) + m.settle()
}

func (m *model) gaps() (l []api.Gap) {
	for d := 1; d <= window; d++ {
		if !m.at[d] {
			continue
		}
		if n := len(l); n > 0 && int(l[n-1].To) == d-1 {
			l[n-1].To++
		} else {
			l = append(l, api.Gap{From: uint16(d), To: uint16(d)})
		}
	}
	return l
}

// bases has those at which numbers begin again at 0 within the window, at its edges, and others.
var bases = []uint32{0, 1, 2, 7, 65535, 1<<31 - window, 1<<31 - 1, 1 << 31, 1<<32 - window - 1, 1<<32 - window, 1<<32 - window + 1, 1<<32 - 100, 1<<32 - 2, 1<<32 - 1}

// same checks everything that can be observed of s, and ends the test if it is not as the model says.
func same(t *testing.T, what string, s *spans.Set, m *model) {
	t.Helper()
	if s.Base() != m.base {
		t.Fatalf("P4.1: %s: Base: %d, not %d", what, s.Base(), m.base)
	}
	if s.Count() != m.count() {
		t.Fatalf("P4.3: %s: Count: %d, not %d", what, s.Count(), m.count())
	}
	if s.Last() != m.last() {
		t.Fatalf("P4.3: %s: Last: %d, not %d", what, s.Last(), m.last())
	}
	if got, want := s.Gaps(math.MaxInt), m.gaps(); !slices.Equal(got, want) {
		t.Fatalf("P4.6: %s: Gaps: %v, not %v", what, got, want)
	}
	for d := -3; d <= window+3; d++ {
		if x := m.base + uint32(d); s.Has(x) != m.has(x) {
			t.Fatalf("P4.2: %s: Has of the base and %d: %v", what, d, s.Has(x))
		}
	}
}

// with returns a set with the members at the distances, and its model.
func with(t *testing.T, base uint32, distances ...int) (*spans.Set, *model) {
	t.Helper()
	s, m := spans.New(base), &model{base: base}
	for _, d := range distances {
		x := base + uint32(d)
		if got, want := s.Add(x), m.add(x); got != want {
			t.Fatalf("P4.2: base %d: Add at distance %d: %v", base, d, got)
		}
	}
	return s, m
}

// upTo returns the distances from one to another.
func upTo(from, to int) (l []int) {
	for d := from; d <= to; d++ {
		l = append(l, d)
	}
	return l
}

func TestExample(t *testing.T) {
	s := spans.New(4294967294)
	for _, x := range []struct {
		x    uint32
		want bool
	}{{0, true}, {0, false}, {4294967294, false}, {4094, true}, {4095, false}} {
		if got := s.Add(x.x); got != x.want {
			t.Errorf("P4.2: Add(%d): %v", x.x, got)
		}
	}
	if l := s.Gaps(9); !slices.Equal(l, []api.Gap{{From: 2, To: 2}, {From: 4096, To: 4096}}) {
		t.Errorf("P4.6: Gaps(9): %v", l)
	}
	if l := s.Gaps(1); !slices.Equal(l, []api.Gap{{From: 2, To: 2}}) {
		t.Errorf("P4.6: Gaps(1): %v", l)
	}
	if x := s.Last(); x != 4094 {
		t.Errorf("P4.3: Last: %d", x)
	}
	if n := s.Settle(); n != 0 {
		t.Errorf("P4.4: Settle: %d", n)
	}
	if !s.Add(4294967295) {
		t.Error("P4.2: Add(4294967295): false")
	}
	if n := s.Settle(); n != 2 || s.Base() != 0 {
		t.Errorf("P4.4: Settle: %d, the base %d", n, s.Base())
	}
	if n := s.Move(4000); n != 4000 || s.Count() != 1 {
		t.Errorf("P4.5: Move(4000): %d, the count %d", n, s.Count())
	}
	if n := s.Move(4093); n != 94 || s.Base() != 4094 || s.Count() != 0 {
		t.Errorf("P4.5: Move(4093): %d, the base %d, the count %d", n, s.Base(), s.Count())
	}
}

func TestNew(t *testing.T) {
	for _, base := range bases {
		s := spans.New(base)
		same(t, "a new set", s, &model{base: base})
		if s.Base() != base || s.Count() != 0 || s.Last() != base || len(s.Gaps(9)) != 0 {
			t.Errorf("P4.1: New(%d): base %d, %d members, the last %d", base, s.Base(), s.Count(), s.Last())
		}
	}
}

// Every distance by itself, from each base: with those far behind the base, and at and around the half of all numbers.
func TestAddOfOne(t *testing.T) {
	distances := upTo(-window-2, 2*window+2)
	for _, d := range []int{1 << 16, 1<<16 + 1, 1<<31 - window, 1<<31 - 1, 1 << 31, 1<<31 + 1, 1<<31 + window, 1<<32 - window - 9} {
		distances = append(distances, d)
	}
	for _, base := range bases {
		for _, d := range distances {
			s, x, fits := spans.New(base), base+uint32(d), d >= 1 && d <= window
			if s.Has(x) {
				t.Fatalf("P4.2: base %d: distance %d is in a new set", base, d)
			}
			if s.Add(x) != fits || s.Has(x) != fits {
				t.Fatalf("P4.2: base %d: Add at distance %d: not %v", base, d, fits)
			}
			if s.Add(x) || s.Has(x) != fits {
				t.Fatalf("P4.2: base %d: Add at distance %d, again", base, d)
			}
			count, last := 0, base
			if fits {
				count, last = 1, x
			}
			if s.Count() != count || s.Last() != last || s.Base() != base {
				t.Fatalf("P4.3: base %d: after Add at distance %d: %d members, the last %d, base %d", base, d, s.Count(), s.Last(), s.Base())
			}
		}
	}
}

func TestRefusedAddChangesNothing(t *testing.T) {
	for _, base := range bases {
		s, m := with(t, base, 2, 3, 9, window)
		for _, d := range []int{-window, -1, 0, 2, 3, 9, window, window + 1, window + 2, 1 << 16, 1<<31 - 1, 1 << 31} {
			if s.Add(base + uint32(d)) {
				t.Fatalf("P4.2: base %d: Add at distance %d: true", base, d)
			}
			same(t, "after a refused Add", s, m)
		}
	}
}

func TestLast(t *testing.T) {
	for _, base := range bases {
		for _, order := range [][]int{{1, 2, 3, window}, {window, 3, 2, 1}, {5, 9, 7}, {2048, 2047, 2049}, {4000, 100, 3000}} {
			s, m := spans.New(base), &model{base: base}
			most := 0
			for i, d := range order {
				most = max(most, d)
				if !s.Add(base+uint32(d)) || s.Last() != base+uint32(most) || s.Count() != i+1 {
					t.Fatalf("P4.3: base %d: of %v, up to number %d: the last %d, %d members", base, order, i, s.Last(), s.Count())
				}
				m.add(base + uint32(d))
			}
			same(t, "members in some order", s, m)
		}
	}
}

func TestSettle(t *testing.T) {
	for _, x := range []struct {
		what      string
		distances []int
		want      int
	}{
		{"no members", nil, 0},
		{"the first", []int{1}, 1},
		{"the second alone", []int{2}, 0},
		{"the first and the third", []int{1, 3}, 1},
		{"three, and two after a gap", []int{3, 2, 1, 5, 6}, 3},
		{"the last alone", []int{window}, 0},
		{"the first and the last", []int{1, window}, 1},
		{"all but the first", upTo(2, window), 0},
		{"all but the last", upTo(1, window-1), window - 1},
		{"all", upTo(1, window), window},
	} {
		for _, base := range bases {
			s, m := with(t, base, x.distances...)
			if got := s.Settle(); got != x.want || m.settle() != x.want {
				t.Fatalf("P4.4: base %d: Settle of %s: %d, not %d", base, x.what, got, x.want)
			}
			if s.Base() != base+uint32(x.want) || s.Count() != len(x.distances)-x.want {
				t.Fatalf("P4.4: base %d: after Settle of %s: base %d, %d members", base, x.what, s.Base(), s.Count())
			}
			same(t, x.what, s, m)
			if got := s.Settle(); got != 0 {
				t.Fatalf("P4.4: base %d: Settle of %s, again: %d", base, x.what, got)
			}
			same(t, x.what+", settled twice", s, m)
			if s.Has(s.Base() + 1) {
				t.Fatalf("consequence: base %d: after Settle of %s the base is followed by a member", base, x.what)
			}
		}
	}
}

// What was behind the base after it advanced is refused; what has come within the window is not.
func TestWindowMovesWithTheBase(t *testing.T) {
	for _, base := range bases {
		s, m := with(t, base, append(upTo(1, 10), 12)...)
		for _, advance := range []func() int{s.Settle, func() int { return s.Move(base + 11) }} {
			if s.Add(s.Base() + window + 1) {
				t.Fatalf("P4.2: base %d: a number beyond the window was added", s.Base())
			}
			advance()
		}
		m.settle()
		m.move(base + 11)
		same(t, "after Settle and Move", s, m)
		for d := 0; d <= 12; d++ {
			if s.Add(base + uint32(d)) {
				t.Fatalf("P4.2: base %d: Add of the number %d, which the base has passed: true", base, d)
			}
		}
		for d := window; d <= window+13; d++ {
			x := base + uint32(d)
			if s.Add(x) != m.add(x) {
				t.Fatalf("P4.2: base %d: after it advanced by 12: Add of the number %d", base, d)
			}
		}
		same(t, "with members added again", s, m)
	}
}

func TestMove(t *testing.T) {
	for _, x := range []struct {
		what      string
		distances []int
		to, want  int
	}{
		{"no members, by one", nil, 1, 1},
		{"no members, by the window", nil, window, window},
		{"to a member", []int{5}, 5, 5},
		{"before a member", []int{5}, 4, 5},
		{"two before a member", []int{5}, 3, 3},
		{"past a member", []int{5}, 6, 6},
		{"to the first of a run", []int{5, 6, 7, 9}, 5, 7},
		{"to the middle of a run", []int{5, 6, 7, 9}, 6, 7},
		{"between runs", []int{2, 3, 6, 7, 9}, 4, 4},
		{"before a run, past another", []int{2, 3, 6, 7, 9}, 5, 7},
		{"to the first, which nothing follows", []int{1, 3}, 1, 1},
		{"before the last", []int{2, window}, window - 1, window},
		{"two before the last", []int{2, window}, window - 2, window - 2},
		{"to the last", []int{2, window}, window, window},
		{"by one, all being in", upTo(1, window), 1, window},
		{"by one, all but the first being in", upTo(2, window), 1, window},
		{"to the end, all being in", upTo(1, window), window, window},
	} {
		for _, base := range bases {
			s, m := with(t, base, x.distances...)
			to := base + uint32(x.to)
			if got := s.Move(to); got != x.want || m.move(to) != x.want {
				t.Fatalf("P4.5: base %d: Move to %d, %s: %d, not %d", base, x.to, x.what, got, x.want)
			}
			if s.Base() != base+uint32(x.want) {
				t.Fatalf("P4.5: base %d: after Move to %d, %s: base %d", base, x.to, x.what, s.Base())
			}
			same(t, x.what, s, m)
		}
	}
}

// A Move that is refused does not settle either.
func TestRefusedMoveChangesNothing(t *testing.T) {
	for _, base := range bases {
		s, m := with(t, base, 1, 2, 3, 9, window)
		for _, d := range []int{0, -1, -2, -window, window + 1, window + 2, 2 * window, 1 << 16, 1<<31 - 1, 1 << 31, 1<<31 + 1} {
			if got := s.Move(base + uint32(d)); got != 0 {
				t.Fatalf("P4.5: base %d: Move by %d: %d", base, d, got)
			}
			same(t, "after a refused Move", s, m)
		}
	}
}

func TestGaps(t *testing.T) {
	for _, x := range []struct {
		what      string
		distances []int
		want      []api.Gap
	}{
		{"no members", nil, nil},
		{"the first", []int{1}, []api.Gap{{From: 1, To: 1}}},
		{"the last", []int{4096}, []api.Gap{{From: 4096, To: 4096}}},
		{"the first and the last", []int{4096, 1}, []api.Gap{{From: 1, To: 1}, {From: 4096, To: 4096}}},
		{"the last two", []int{4095, 4096}, []api.Gap{{From: 4095, To: 4096}}},
		{"some, in disorder", []int{9, 2, 8, 300, 3, 5, 299}, []api.Gap{{From: 2, To: 3}, {From: 5, To: 5}, {From: 8, To: 9}, {From: 299, To: 300}}},
		{"around 256", []int{255, 256, 257}, []api.Gap{{From: 255, To: 257}}},
		{"all", upTo(1, 4096), []api.Gap{{From: 1, To: 4096}}},
		{"all but the first", upTo(2, 4096), []api.Gap{{From: 2, To: 4096}}},
		{"all but the last", upTo(1, 4095), []api.Gap{{From: 1, To: 4095}}},
		{"all but one", append(upTo(1, 1999), upTo(2001, 4096)...), []api.Gap{{From: 1, To: 1999}, {From: 2001, To: 4096}}},
	} {
		for _, base := range bases {
			s, m := with(t, base, x.distances...)
			for _, most := range []int{math.MinInt, -1 << 32, -1, 0, 1, 2, 3, 4, 5, 9, 1 << 16, 1 << 32, math.MaxInt} {
				want := x.want[:min(max(most, 0), len(x.want))]
				if got := s.Gaps(most); !slices.Equal(got, want) {
					t.Fatalf("P4.6: base %d: Gaps(%d) of %s: %v, not %v", base, most, x.what, got, want)
				}
			}
			same(t, x.what, s, m)
		}
	}
}

// Every second number: the most runs that there can be.
func TestManyGaps(t *testing.T) {
	for first := 1; first <= 2; first++ {
		s := spans.New(1<<32 - 1000)
		var want []api.Gap
		for d := first; d <= window; d += 2 {
			s.Add(1<<32 - 1000 + uint32(d))
			want = append(want, api.Gap{From: uint16(d), To: uint16(d)})
		}
		for _, most := range []int{0, 1, 2047, 2048, 2049, math.MaxInt} {
			if got := s.Gaps(most); !slices.Equal(got, want[:min(most, 2048)]) {
				t.Fatalf("P4.6: every second number, from %d: Gaps(%d): %v", first, most, got)
			}
		}
	}
}

// All sets of ten numbers, against the model, with each Move.
func TestEverySmallSet(t *testing.T) {
	for bits := range 1 << 10 {
		var distances []int
		for d := 1; d <= 10; d++ {
			if bits>>(d-1)&1 == 1 {
				distances = append(distances, d)
			}
		}
		const base = 1<<32 - 5
		for to := 0; to <= 11; to++ {
			s, m := with(t, base, distances...)
			got, want := 0, 0
			if to == 0 {
				got, want = s.Settle(), m.settle()
			} else {
				got, want = s.Move(base+uint32(to)), m.move(base+uint32(to))
			}
			l := m.gaps()
			if got != want || s.Base() != m.base || s.Count() != m.count() || s.Last() != m.last() || !slices.Equal(s.Gaps(99), l) {
				t.Fatalf("P4.4, P4.5: %v, moved to %d (0: settled): %d, not %d; base %d, gaps %v", distances, to, got, want, s.Base(), s.Gaps(99))
			}
			if most := len(l) / 2; !slices.Equal(s.Gaps(most), l[:most]) {
				t.Fatalf("P4.6: %v, moved to %d: Gaps(%d): %v", distances, to, most, s.Gaps(most))
			}
		}
	}
}

// step does one thing at random to both, near the base or far from it.
func step(t *testing.T, r *rand.Rand, s *spans.Set, m *model) {
	t.Helper()
	near := []int{6, 40, window + 20}[r.Intn(3)]
	x := m.base + uint32(r.Intn(near)-2)
	switch n := r.Intn(40); {
	case n == 0:
		if got, want := s.Settle(), m.settle(); got != want {
			t.Fatalf("P4.4: base %d: Settle: %d, not %d", m.base, got, want)
		}
	case n == 1:
		old := m.base
		if got, want := s.Move(x), m.move(x); got != want {
			t.Fatalf("P4.5: base %d: Move(%d): %d, not %d", old, x, got, want)
		}
	case n == 2:
		most := r.Intn(20)
		if got, want := s.Gaps(most), m.gaps(); !slices.Equal(got, want[:min(most, len(want))]) {
			t.Fatalf("P4.6: base %d: Gaps(%d): %v", m.base, most, got)
		}
	default:
		had := m.has(x)
		if s.Has(x) != had {
			t.Fatalf("P4.2: base %d: Has(%d): %v", m.base, x, !had)
		}
		if got, want := s.Add(x), m.add(x); got != want {
			t.Fatalf("P4.2: base %d: Add(%d): %v", m.base, x, got)
		}
	}
}

func TestManyStepsAgainstTheModel(t *testing.T) {
	for seed := range int64(6) {
		r := rand.New(rand.NewSource(seed))
		base := bases[r.Intn(len(bases))]
		s, m := spans.New(base), &model{base: base}
		for i := range 20000 {
			step(t, r, s, m)
			if i%100 == 0 {
				same(t, "after many steps", s, m)
			}
		}
		same(t, "at the end", s, m)
	}
}

func TestAnyOrderMakesTheSameSet(t *testing.T) {
	r := rand.New(rand.NewSource(7))
	for range 30 {
		base, distances := bases[r.Intn(len(bases))], r.Perm(window)[:r.Intn(300)]
		want := 0
		var gaps []api.Gap
		for round := range 5 {
			s := spans.New(base)
			for _, d := range distances {
				if !s.Add(base + 1 + uint32(d)) {
					t.Fatalf("consequence: base %d: distance %d was not accepted", base, d+1)
				}
			}
			for _, d := range distances {
				if s.Add(base + 1 + uint32(d)) {
					t.Fatalf("consequence: base %d: distance %d was accepted twice", base, d+1)
				}
			}
			if round == 0 {
				want, gaps = s.Count(), s.Gaps(window)
			}
			if s.Count() != want || want != len(distances) || !slices.Equal(s.Gaps(window), gaps) {
				t.Fatalf("consequence: base %d: in another order: %d members in %v, not %d in %v", base, s.Count(), s.Gaps(window), want, gaps)
			}
			r.Shuffle(len(distances), func(i, j int) { distances[i], distances[j] = distances[j], distances[i] })
		}
	}
}

func TestTheSameOffsetChangesNothing(t *testing.T) {
	r := rand.New(rand.NewSource(8))
	for range 10 {
		distances := r.Perm(50)[:20]
		first, _ := with(t, 0, distances...)
		moved := first.Gaps(99)
		for _, offset := range append(bases, r.Uint32(), r.Uint32()) {
			s, _ := with(t, offset, distances...)
			if s.Count() != first.Count() || s.Last() != first.Last()+offset || !slices.Equal(s.Gaps(99), moved) {
				t.Fatalf("consequence: with %d added to all: %d members in %v, not %d in %v", offset, s.Count(), s.Gaps(99), first.Count(), moved)
			}
		}
	}
}

// A long life: each pair of numbers comes in the wrong order, and the base passes 0 once.
func TestBaseGoesOnAndOn(t *testing.T) {
	s := spans.New(1<<32 - 100000)
	for range 100000 {
		base := s.Base()
		if !s.Add(base+2) || s.Settle() != 0 || s.Base() != base {
			t.Fatalf("P4.4: base %d: the second number after it moved it", base)
		}
		if !s.Add(base+1) || s.Settle() != 2 || s.Base() != base+2 || s.Count() != 0 {
			t.Fatalf("P4.4: base %d: after both numbers that follow it: base %d, %d members", base, s.Base(), s.Count())
		}
	}
	if s.Base() != 100000 {
		t.Errorf("P4.4: at the end: base %d", s.Base())
	}
}

func TestNil(t *testing.T) {
	var none *spans.Set
	for _, x := range append(bases, 3, 100, window, window+1) {
		if none.Add(x) || none.Has(x) || none.Move(x) != 0 || none.Settle() != 0 {
			t.Errorf("R4: no set: Add, Has, Move(%d) or Settle", x)
		}
	}
	if none.Base() != 0 || none.Count() != 0 || none.Last() != 0 {
		t.Errorf("R4: no set: base %d, %d members, the last %d", none.Base(), none.Count(), none.Last())
	}
	for _, most := range []int{math.MinInt, -1, 0, 1, 9, math.MaxInt} {
		if l := none.Gaps(most); len(l) != 0 {
			t.Errorf("R4: no set: Gaps(%d): %v", most, l)
		}
	}
}

func TestGapsAreNew(t *testing.T) {
	s, m := with(t, 9, 2, 3, 7)
	first, second := s.Gaps(9), s.Gaps(9)
	for i := range first[:cap(first)] {
		first[:cap(first)][i] = api.Gap{From: 77, To: 78}
	}
	if want := m.gaps(); !slices.Equal(second, want) || !slices.Equal(s.Gaps(9), want) {
		t.Errorf("R3: a change to one result changed another: %v, %v", second, s.Gaps(9))
	}
	kept := s.Gaps(9)
	s.Add(9 + 4)
	s.Move(9 + 2)
	if want := m.gaps(); !slices.Equal(kept, want) {
		t.Errorf("R3: a change to the set changed an earlier result: %v", kept)
	}
}

func TestSetsAreSeparate(t *testing.T) {
	a, ma := with(t, 5, 1, 2, 9)
	b, mb := with(t, 5, 3, 4)
	same(t, "the first set", a, ma)
	a.Settle()
	a.Move(5 + 20)
	same(t, "the second set", b, mb)
	if c := spans.New(5); c.Count() != 0 || c.Base() != 5 || c.Has(6) {
		t.Errorf("R5: a new set with the base of another has %d members", c.Count())
	}
}
