package ring_test

import (
	"errors"
	"math"
	"math/rand"
	"runtime"
	"slices"
	"testing"
	"weak"

	"fairlead/api"
	"fairlead/ring"
)

// maxRoom is written out: what the document says, not what the program reads.
const maxRoom = 1048576

// made returns an empty ring for at most so many elements.
func made[T any](t *testing.T, most int) *ring.Ring[T] {
	t.Helper()
	r, e := ring.New[T](most)
	if e != api.OK || r == nil {
		t.Fatalf("P5.1: New(%d): %v, error %d", most, r, e)
	}
	return r
}

// same checks everything that can be observed of r, and ends the test if it does not hold just the wanted elements.
func same[T comparable](t *testing.T, what string, r *ring.Ring[T], most int, want []T) {
	t.Helper()
	if r.Len() != len(want) {
		t.Fatalf("P5.1: %s: Len: %d, not %d", what, r.Len(), len(want))
	}
	if r.Room() != most-len(want) {
		t.Fatalf("P5.1: %s: Room: %d, not %d", what, r.Room(), most-len(want))
	}
	for i, x := range want {
		if got, ok := r.At(i); !ok || got != x {
			t.Fatalf("P5.3: %s: At(%d): %v, %v, not %v", what, i, got, ok, x)
		}
	}
	var none T
	for _, i := range []int{math.MinInt, -most, -2, -1, len(want), len(want) + 1, most, most + 1, 2 * most, maxRoom, 1 << 32, math.MaxInt} {
		if i >= 0 && i < len(want) {
			continue
		}
		if got, ok := r.At(i); ok || got != none {
			t.Fatalf("P5.3: %s: At(%d): %v, %v", what, i, got, ok)
		}
	}
}

// push appends x to the ring and to its model, which a full ring must not do.
func push[T comparable](t *testing.T, r *ring.Ring[T], most int, model []T, x T) []T {
	t.Helper()
	fits := len(model) < most
	if got := r.Push(x); got != fits {
		t.Fatalf("P5.2: Push onto %d of %d elements: %v", len(model), most, got)
	}
	if fits {
		model = append(model, x)
	}
	return model
}

// pop removes the first element of the ring and of its model.
func pop[T comparable](t *testing.T, r *ring.Ring[T], model []T) []T {
	t.Helper()
	got, ok := r.Pop()
	if len(model) == 0 {
		var none T
		if ok || got != none {
			t.Fatalf("P5.2: Pop of an empty ring: %v, %v", got, ok)
		}
		return model
	}
	if !ok || got != model[0] {
		t.Fatalf("P5.2: Pop: %v, %v, not %v", got, ok, model[0])
	}
	return model[1:]
}

func TestExample(t *testing.T) {
	for _, most := range []int{0, 1<<20 + 1} {
		if r, e := ring.New[string](most); r != nil || e != api.ErrArg {
			t.Errorf("P5.1: New(%d): %v, error %d", most, r, e)
		}
	}
	r := made[string](t, 2)
	if a, b, c := r.Push("a"), r.Push("b"), r.Push("c"); !a || !b || c {
		t.Errorf("P5.2: Push of a, b, c: %v, %v, %v", a, b, c)
	}
	if x, ok := r.At(1); x != "b" || !ok {
		t.Errorf("P5.3: At(1): %q, %v", x, ok)
	}
	if x, ok := r.At(2); x != "" || ok {
		t.Errorf("P5.3: At(2): %q, %v", x, ok)
	}
	if x, ok := r.Pop(); x != "a" || !ok {
		t.Errorf("P5.2: Pop: %q, %v, not a", x, ok)
	}
	if n := r.Room(); n != 1 {
		t.Errorf("P5.1: Room: %d", n)
	}
	if !r.Push("c") {
		t.Error("P5.2: Push of c: false")
	}
	for _, want := range []string{"b", "c", ""} {
		if x, ok := r.Pop(); x != want || ok != (want != "") {
			t.Errorf("P5.2: Pop: %q, %v, not %q", x, ok, want)
		}
	}
}

func TestNew(t *testing.T) {
	for _, most := range []int{math.MinInt, -1 << 32, -1<<32 + 1, -1<<31 - 1, -maxRoom, -2, -1, 0, maxRoom + 1, maxRoom + 2, 2 * maxRoom, 1 << 31, 1 << 32, 1<<32 + 1, math.MaxInt} {
		if r, e := ring.New[int](most); r != nil || e != api.ErrArg {
			t.Errorf("P5.1: New(%d): %v, error %d", most, r, e)
		}
	}
	for _, most := range []int{1, 2, 3, 4, 7, 255, 256, 257, 65535, 65536, 65537, maxRoom - 1, maxRoom} {
		r := made[int](t, most)
		same(t, "a new ring", r, most, nil)
		if x, ok := r.Pop(); x != 0 || ok {
			t.Errorf("P5.2: Pop of a new ring: %d, %v", x, ok)
		}
		same(t, "a new ring, after Pop", r, most, nil)
	}
}

// Capacity for the most elements, each of a mebibyte: only those that are pushed may take memory.
func TestNewOfBigElements(t *testing.T) {
	r := made[[1 << 20]byte](t, maxRoom)
	if r.Len() != 0 || r.Room() != maxRoom {
		t.Errorf("P5.1: a new ring of big elements: Len %d, Room %d", r.Len(), r.Room())
	}
	var big [1 << 20]byte
	big[1<<20-1] = 7
	if !r.Push(big) || r.Room() != maxRoom-1 {
		t.Errorf("P5.2: after Push of a big element: Room %d", r.Room())
	}
	if x, ok := r.Pop(); !ok || x != big {
		t.Error("P5.2: Pop of a big element: another one")
	}
}

// Each capacity is filled, then some more is refused; then all is popped, and once more.
func TestFillAndEmpty(t *testing.T) {
	for _, most := range []int{1, 2, 3, 4, 5, 8, 9, 100} {
		r, x := made[int](t, most), 1
		var model []int
		for range 3 {
			for range most + 2 {
				model = push(t, r, most, model, x)
				same(t, "after Push", r, most, model)
				x++
			}
			for range most + 2 {
				model = pop(t, r, model)
				same(t, "after Pop", r, most, model)
			}
		}
	}
}

// The ring of the most elements: in a time that grows with the number of calls alone.
func TestFullSize(t *testing.T) {
	r := made[int](t, maxRoom)
	for i := range maxRoom {
		if !r.Push(i) {
			t.Fatalf("P5.2: Push number %d: false", i)
		}
	}
	if r.Push(-1) || r.Len() != maxRoom || r.Room() != 0 {
		t.Fatalf("P5.2: a full ring: Len %d, Room %d", r.Len(), r.Room())
	}
	for i := range maxRoom {
		if x, ok := r.At(i); x != i || !ok {
			t.Fatalf("P5.3: At(%d): %d, %v", i, x, ok)
		}
	}
	for i := range maxRoom {
		if x, ok := r.Pop(); x != i || !ok {
			t.Fatalf("P5.2: Pop number %d: %d, %v", i, x, ok)
		}
		if !r.Push(maxRoom + i) {
			t.Fatalf("P5.2: Push after Pop number %d: false", i)
		}
		if x, ok := r.At(maxRoom - 1); x != maxRoom+i || !ok {
			t.Fatalf("P5.3: At(%d) after Pop number %d: %d, %v", maxRoom-1, i, x, ok)
		}
	}
	for i := range maxRoom {
		if x, ok := r.Pop(); x != maxRoom+i || !ok {
			t.Fatalf("P5.2: Pop number %d: %d, %v", maxRoom+i, x, ok)
		}
	}
	if x, ok := r.Pop(); x != 0 || ok || r.Room() != maxRoom {
		t.Fatalf("P5.2: Pop of an emptied ring: %d, %v, Room %d", x, ok, r.Room())
	}
}

// A refused Push must leave every element as it was.
func TestRefusedPushChangesNothing(t *testing.T) {
	r := made[string](t, 3)
	for _, x := range []string{"a", "b", "c"} {
		r.Push(x)
	}
	for range 5 {
		if r.Push("d") {
			t.Fatal("P5.2: Push onto a full ring: true")
		}
		same(t, "after a refused Push", r, 3, []string{"a", "b", "c"})
	}
	r.Pop()
	same(t, "after refused Pushes and a Pop", r, 3, []string{"b", "c"})
}

// At tells the front from what was popped before it, and reading does not remove.
func TestAtReadsOnly(t *testing.T) {
	r := made[int](t, 4)
	for x := 1; x <= 6; x++ {
		r.Push(x)
		if x == 2 || x == 4 {
			r.Pop()
		}
	}
	for range 3 {
		same(t, "a ring of which two were popped", r, 4, []int{3, 4, 5, 6})
	}
}

func TestClear(t *testing.T) {
	for _, most := range []int{1, 2, 3, 10} {
		for n := range most + 1 {
			for popped := range n + 1 {
				r := made[int](t, most)
				for x := range n {
					r.Push(x + 1)
				}
				for range popped {
					r.Pop()
				}
				r.Clear()
				same(t, "after Clear", r, most, nil)
				r.Clear()
				same(t, "after Clear, again", r, most, nil)
				if x, ok := r.Pop(); x != 0 || ok {
					t.Fatalf("P5.3: Pop after Clear of %d of %d: %d, %v", n, most, x, ok)
				}
				var model []int
				for x := range most + 1 {
					model = push(t, r, most, model, 100+x)
				}
				same(t, "filled after Clear", r, most, model)
			}
		}
	}
}

// Every order of eight calls, on small rings.
func TestAllSmallOrders(t *testing.T) {
	for most := 1; most <= 3; most++ {
		for order := range 6561 {
			r := made[int](t, most)
			var model []int
			for i, rest := 1, order; i <= 8; i, rest = i+1, rest/3 {
				switch rest % 3 {
				case 0:
					model = push(t, r, most, model, i)
				case 1:
					model = pop(t, r, model)
				default:
					r.Clear()
					model = nil
				}
				same(t, "in some order", r, most, model)
			}
		}
	}
}

// Long orders, of which some push more than they pop, and some less.
func TestRandomOrders(t *testing.T) {
	random := rand.New(rand.NewSource(5))
	for round := range 300 {
		most := 1 + random.Intn(40)
		r := made[int](t, most)
		var model []int
		pushes := 1 + random.Intn(9)
		for x := 1; x <= 500; x++ {
			switch n := random.Intn(100); {
			case n == 0 && round%2 == 0:
				r.Clear()
				model = nil
			case n%10 < pushes:
				model = push(t, r, most, model, x)
			default:
				model = pop(t, r, model)
			}
			same(t, "in a random order", r, most, model)
		}
	}
}

// sameOfType checks a ring of one type: what is pushed comes back as it is, and the zero value where there is none.
func sameOfType[T comparable](t *testing.T, what string, a, b T) {
	t.Helper()
	r := made[T](t, 2)
	var none, model []T
	same(t, what, r, 2, none)
	for _, x := range []T{a, b, a} {
		model = push(t, r, 2, model, x)
		same(t, what, r, 2, model)
	}
	for range 3 {
		model = pop(t, r, model)
		same(t, what, r, 2, model)
	}
	r.Push(b)
	r.Clear()
	same(t, what, r, 2, none)
}

func TestTypes(t *testing.T) {
	type pair struct {
		name string
		n    uint32
	}
	x, y := 1, 2
	sameOfType(t, "bools", true, false)
	sameOfType(t, "bytes", byte(0), byte(255))
	sameOfType(t, "strings", "", "b")
	sameOfType(t, "floats", 1.5, math.Inf(-1))
	sameOfType(t, "pairs", pair{"a", 1}, pair{"b", 2})
	sameOfType(t, "arrays", [3]int{1, 2, 3}, [3]int{})
	sameOfType(t, "structs without fields", struct{}{}, struct{}{})
	sameOfType(t, "pointers", &x, &y)
	sameOfType(t, "pointers, one nil", nil, &y)
	sameOfType(t, "errors", errors.New("a"), errors.New("b"))
	sameOfType[error](t, "errors, one nil", api.ErrArg, nil)
	sameOfType[any](t, "things of any type", 1, "b")
	sameOfType(t, "rings", made[int](t, 1), made[int](t, 2))
}

// Zero values are elements like others.
func TestZeroValuesAreElements(t *testing.T) {
	r := made[*int](t, 2)
	if !r.Push(nil) || !r.Push(nil) || r.Push(nil) {
		t.Error("P5.2: Push of nil: not as of other elements")
	}
	if x, ok := r.At(1); x != nil || !ok {
		t.Errorf("P5.3: At(1) of nils: %v, %v", x, ok)
	}
	for _, want := range []bool{true, true, false} {
		if x, ok := r.Pop(); x != nil || ok != want {
			t.Errorf("P5.2: Pop of nils: %v, %v", x, ok)
		}
	}
}

// Slices are passed as they are: the bytes, also those beyond the length, are not touched.
func TestElementsAreLeftAsTheyAre(t *testing.T) {
	r := made[[]byte](t, 2)
	a := []byte{1, 2, 3, 4}
	for _, step := range []func(){
		func() { r.Push(a[:2]) },
		func() { r.At(0) },
		func() { r.Push(a[1:3]) },
		func() { r.Push(a) },
		func() { r.Pop() },
		func() { r.Clear() },
	} {
		step()
		if !slices.Equal(a, []byte{1, 2, 3, 4}) {
			t.Fatalf("R3: the bytes of an element have become %v", a)
		}
	}
	r.Push(a[:2])
	if x, ok := r.Pop(); !ok || len(x) != 2 || &x[0] != &a[0] {
		t.Errorf("R3: Pop: %v, %v: not the slice that was pushed", x, ok)
	}
}

// sameOfNil checks a nil ring of one type.
func sameOfNil[T comparable](t *testing.T, x T) {
	t.Helper()
	var r *ring.Ring[T]
	var none T
	for range 2 {
		if r.Len() != 0 || r.Room() != 0 {
			t.Errorf("P5.4: a nil ring: Len %d, Room %d", r.Len(), r.Room())
		}
		if r.Push(x) {
			t.Error("P5.4: Push onto a nil ring: true")
		}
		if got, ok := r.Pop(); got != none || ok {
			t.Errorf("P5.4: Pop of a nil ring: %v, %v", got, ok)
		}
		for _, i := range []int{math.MinInt, -1, 0, 1, math.MaxInt} {
			if got, ok := r.At(i); got != none || ok {
				t.Errorf("P5.4: At(%d) of a nil ring: %v, %v", i, got, ok)
			}
		}
		r.Clear()
	}
}

func TestNil(t *testing.T) {
	sameOfNil(t, 1)
	sameOfNil(t, "a")
	sameOfNil(t, &struct{ n int }{1})
	sameOfNil[error](t, api.ErrArg)
}

// Each element comes back once, in the order of the pushes, whatever is popped in between.
func TestOrderOfElements(t *testing.T) {
	random := rand.New(rand.NewSource(55))
	for _, most := range []int{1, 2, 7, 64} {
		r := made[int](t, most)
		pushed, popped := 0, 0
		for popped < 2000 {
			if random.Intn(2) == 0 && r.Push(pushed) {
				pushed++
			}
			if random.Intn(2) == 0 {
				if x, ok := r.Pop(); ok && x != popped {
					t.Fatalf("consequence: of %d: the element %d was popped, not %d", most, x, popped)
				} else if ok {
					popped++
				}
			}
			if r.Len() != pushed-popped {
				t.Fatalf("consequence: of %d: %d pushed, %d popped, %d there", most, pushed, popped, r.Len())
			}
		}
	}
}

// What is done to one ring is not seen in another.
func TestRingsAreIndependent(t *testing.T) {
	random := rand.New(rand.NewSource(6))
	capacities := []int{1, 2, 3, 3, 9}
	rings, models := make([]*ring.Ring[int], 5), make([][]int, 5)
	for i, most := range capacities {
		rings[i] = made[int](t, most)
	}
	for x := range 5000 {
		i := random.Intn(5)
		switch random.Intn(20) {
		case 0:
			rings[i].Clear()
			models[i] = nil
		case 1, 2, 3, 4, 5, 6, 7:
			models[i] = pop(t, rings[i], models[i])
		default:
			models[i] = push(t, rings[i], capacities[i], models[i], x+1)
		}
		for j, r := range rings {
			same(t, "consequence: one of five rings", r, capacities[j], models[j])
		}
	}
}

// An element that was removed is not kept: the memory that it refers to can be used again.
func TestRemovedElementsAreNotKept(t *testing.T) {
	type thing struct{ bytes [64]byte }
	r := made[*thing](t, 8)
	var removed []weak.Pointer[thing]
	add := func() {
		x := &thing{}
		r.Push(x)
		removed = append(removed, weak.Make(x))
	}
	for range 8 {
		add()
	}
	for range 3 {
		r.Pop()
	}
	runtime.GC()
	for i, p := range removed {
		if kept := p.Value() != nil; kept != (i >= 3) {
			t.Errorf("P5.2: of eight elements, after three Pops: number %d is kept: %v", i, kept)
		}
	}
	r.Clear()
	runtime.GC()
	for i, p := range removed {
		if p.Value() != nil {
			t.Errorf("P5.3: after Clear: number %d is kept", i)
		}
	}
	runtime.KeepAlive(r)
}

// Nothing runs on behalf of a ring.
func TestNoGoroutines(t *testing.T) {
	before := runtime.NumGoroutine()
	for range 50 {
		r := made[int](t, 2)
		for x := range 3 {
			r.Push(x)
		}
		r.Pop()
	}
	if after := runtime.NumGoroutine(); after > before {
		t.Errorf("ways: %d goroutines, of which %d were there before", after, before)
	}
}
