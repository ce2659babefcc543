package hatch

import (
	"errors"
	"fmt"
	"math"
	"slices"
	"testing"
)

// wantStands holds how many wait in each lane, and how many were lost.
func wantStands[T any](t *testing.T, what string, h *Hatch[T], fast, slow, lost int) {
	t.Helper()
	a, b := h.Len()
	if a != fast || b != slow || h.Lost() != lost {
		t.Errorf("%s: Len %d, %d, Lost %d; want %d, %d and %d", what, a, b, h.Lost(), fast, slow, lost)
	}
}

func wantTake[T comparable](t *testing.T, what string, h *Hatch[T], want T) {
	t.Helper()
	if x, is := h.Take(); x != want || !is {
		t.Errorf("%s: Take %v, %v; want %v", what, x, is, want)
	}
}

func wantNone[T comparable](t *testing.T, what string, h *Hatch[T]) {
	t.Helper()
	var zero T
	if x, is := h.Take(); x != zero || is {
		t.Errorf("%s: Take %v, %v where nothing waits", what, x, is)
	}
}

// put puts x into the lane of that name.
func put[T any](h *Hatch[T], lane string, x T) bool {
	if lane == "fast" {
		return h.Fast(x)
	}
	return h.Slow(x)
}

// must puts what has to fit for a test to mean anything.
func must(t *testing.T, fits ...bool) {
	t.Helper()
	for k, is := range fits {
		if !is {
			t.Fatalf("step %d: it did not fit", k)
		}
	}
}

func TestRoom(t *testing.T) {
	rooms := map[int]int{
		math.MinInt: 1, math.MinInt32: 1, -64: 1, -1: 1, 0: 1, 1: 1,
		64: 64, 65: 64, 128: 64, 1000: 64, 1 << 32: 64, 1<<32 + 1: 64, math.MaxInt32: 64, math.MaxInt: 64,
	}
	for room := range 64 {
		rooms[room+1] = room + 1
	}
	for room, most := range rooms {
		for _, lane := range []string{"fast", "slow"} {
			what := fmt.Sprintf("P5.1: New(%d), the %s lane", room, lane)
			h := New[int](room)
			wantStands(t, what, h, 0, 0, 0)
			for k := range most {
				if !put(h, lane, k) {
					t.Errorf("%s: there is no room for the one behind %d", what, k)
				}
			}
			if put(h, lane, -1) {
				t.Errorf("%s: there is room for more than %d", what, most)
			}
			if lane == "fast" {
				wantStands(t, what, h, most, 0, 1)
			} else {
				wantStands(t, what, h, 0, most, 1)
			}
			for k := range most {
				wantTake(t, what, h, k)
			}
			wantNone(t, what, h)
			wantStands(t, what, h, 0, 0, 1)
		}
	}
}

// A full lane takes no room from the other one.
func TestEachLaneByItself(t *testing.T) {
	for _, room := range []int{1, 2, 7, 63, 64} {
		for _, first := range []string{"fast", "slow"} {
			other := map[string]string{"fast": "slow", "slow": "fast"}[first]
			what := fmt.Sprintf("P5.1: a room of %d, the %s lane first", room, first)
			h := New[string](room)
			for k := range room {
				must(t, put(h, first, fmt.Sprint(first, k)))
			}
			for k := range room {
				if !put(h, other, fmt.Sprint(other, k)) {
					t.Errorf("%s: no room in the other lane behind %d", what, k)
				}
			}
			if h.Fast("more") || h.Slow("more") {
				t.Errorf("%s: there is room for more", what)
			}
			wantStands(t, what, h, room, room, 2)
			for _, lane := range []string{"fast", "slow"} {
				for k := range room {
					wantTake(t, what, h, fmt.Sprint(lane, k))
				}
			}
			wantNone(t, what, h)
		}
	}
}

// What did not fit is neither there later nor in the place of what waits.
func TestLost(t *testing.T) {
	for _, lane := range []string{"fast", "slow"} {
		h := New[string](2)
		must(t, put(h, lane, "a"), put(h, lane, "b"))
		for k := range 1000 {
			if put(h, lane, "lost") {
				t.Fatalf("P5.1: %s: a full lane takes one more", lane)
			}
			if h.Lost() != k+1 {
				t.Fatalf("P5.1: %s: Lost %d, want %d", lane, h.Lost(), k+1)
			}
		}
		wantTake(t, "P5.1: "+lane, h, "a")
		must(t, put(h, lane, "c"))
		if put(h, lane, "lost") {
			t.Errorf("P5.1: %s: one was taken, and two fit", lane)
		}
		wantTake(t, "P5.1: "+lane, h, "b")
		wantTake(t, "P5.1: "+lane, h, "c")
		wantNone(t, "P5.1: "+lane, h)
		wantStands(t, "P5.1: "+lane, h, 0, 0, 1001)
	}
}

// Lost counts what both lanes lost, and nothing else.
func TestLostOfBothLanes(t *testing.T) {
	h := New[int](1)
	wantStands(t, "P5.1: nothing", h, 0, 0, 0)
	must(t, h.Slow(1))
	wantStands(t, "P5.1: one slow", h, 0, 1, 0)
	h.Slow(2)
	wantStands(t, "P5.1: two slow", h, 0, 1, 1)
	must(t, h.Fast(3))
	wantStands(t, "P5.1: one fast", h, 1, 1, 1)
	h.Fast(4)
	wantStands(t, "P5.1: two fast", h, 1, 1, 2)
	wantTake(t, "P5.1: two of each", h, 3)
	wantStands(t, "P5.1: the fast one taken", h, 0, 1, 2)
	wantTake(t, "P5.1: two of each", h, 1)
	wantStands(t, "P5.1: both taken", h, 0, 0, 2)
	wantNone(t, "P5.1: two of each", h)
	wantStands(t, "P5.1: Take of nothing is no loss", h, 0, 0, 2)
}

func TestFastAheadOfSlow(t *testing.T) {
	h := New[string](5)
	must(t, h.Slow("s1"), h.Slow("s2"), h.Fast("f1"), h.Slow("s3"), h.Fast("f2"))
	for k, want := range []string{"f1", "f2", "s1", "s2", "s3"} {
		wantTake(t, fmt.Sprint("P5.1: slow ones first, ", k), h, want)
	}
	must(t, h.Fast("f1"), h.Slow("s1"))
	wantTake(t, "P5.1: a fast one first", h, "f1")
	must(t, h.Slow("s2"), h.Fast("f2"))
	wantTake(t, "P5.1: a fast one behind two slow ones", h, "f2")
	wantTake(t, "P5.1: no fast one", h, "s1")
	must(t, h.Fast("f3"), h.Fast("f4"))
	wantTake(t, "P5.1: fast ones between slow ones", h, "f3")
	wantTake(t, "P5.1: fast ones between slow ones", h, "f4")
	wantTake(t, "P5.1: the slow one last", h, "s2")
	wantNone(t, "P5.1: all taken", h)
}

// Where both lanes have something, it is never chance which of them is asked.
func TestFastAheadOfSlowEachTime(t *testing.T) {
	h := New[int](64)
	for k := range 64 {
		must(t, h.Slow(-k), h.Fast(k))
	}
	for k := range 64 {
		wantTake(t, "P5.1: the fast lane", h, k)
	}
	for k := range 64 {
		wantTake(t, "P5.1: the slow lane", h, -k)
	}
}

func TestTakeOfNothing(t *testing.T) {
	for _, room := range []int{0, 1, 64} {
		h := New[int](room)
		for range 3 {
			wantNone(t, "P5.1: a new one", h)
		}
		wantStands(t, "P5.1: a new one", h, 0, 0, 0)
		must(t, h.Slow(7))
		wantTake(t, "P5.1: one", h, 7)
		for range 3 {
			wantNone(t, "P5.1: an emptied one", h)
		}
		wantStands(t, "P5.1: an emptied one", h, 0, 0, 0)
	}
}

func TestFilledAndEmptied(t *testing.T) {
	for _, room := range []int{1, 3, 64} {
		h := New[int](room)
		for round := range 100 {
			for k := range room {
				must(t, h.Fast(1000*round+k), h.Slow(-1000*round-k))
			}
			if h.Fast(1) || h.Slow(1) {
				t.Fatalf("P5.1: a room of %d, round %d: there is room for more", room, round)
			}
			wantStands(t, "P5.1: filled", h, room, room, 2*round+2)
			for k := range room {
				wantTake(t, "P5.1: filled", h, 1000*round+k)
			}
			for k := range room {
				wantTake(t, "P5.1: filled", h, -1000*round-k)
			}
			wantNone(t, "P5.1: emptied", h)
			wantStands(t, "P5.1: emptied", h, 0, 0, 2*round+2)
		}
	}
}

// Much goes through a hatch that is never empty.
func TestManyGoThrough(t *testing.T) {
	for _, lane := range []string{"fast", "slow"} {
		h := New[int](3)
		must(t, put(h, lane, 0), put(h, lane, 1))
		for k := range 10000 {
			must(t, put(h, lane, k+2))
			wantTake(t, "P5.1: "+lane, h, k)
		}
		if a, b := h.Len(); a+b != 2 || h.Lost() != 0 {
			t.Errorf("P5.1: %s: Len %d, %d, Lost %d", lane, a, b, h.Lost())
		}
	}
}

// plain is a hatch as the chapter tells it, of lists.
type plain struct {
	room, lost int
	fast, slow []int
}

func (p *plain) put(to *[]int, x int) bool {
	if len(*to) >= p.room {
		p.lost++
		return false
	}
	*to = append(*to, x)
	return true
}

func (p *plain) take() (int, bool) {
	from := &p.fast
	if len(p.fast) == 0 {
		from = &p.slow
	}
	if len(*from) == 0 {
		return 0, false
	}
	x := (*from)[0]
	*from = slices.Delete(*from, 0, 1)
	return x, true
}

// Steps of all kinds, held against the plainer hatch behind each.
func TestAgainstPlain(t *testing.T) {
	dice := uint64(5)
	for run := range 300 {
		room := run%70 - 2
		h, p := New[int](room), &plain{room: min(max(room, 1), 64)}
		for step := range 400 {
			dice = dice*6364136223846793005 + 1442695040888963407
			what := fmt.Sprintf("P5.1: a room of %d, step %d", room, step)
			// Now more is put, now more is taken, so that lanes come to be full and empty.
			way := int(dice>>33) % 6
			if step/100%2 == 1 {
				way -= 2
			}
			switch {
			case way >= 4:
				if got, want := h.Fast(step+1), p.put(&p.fast, step+1); got != want {
					t.Fatalf("%s: Fast %v", what, got)
				}
			case way >= 2:
				if got, want := h.Slow(step+1), p.put(&p.slow, step+1); got != want {
					t.Fatalf("%s: Slow %v", what, got)
				}
			default:
				x, is := h.Take()
				if y, was := p.take(); x != y || is != was {
					t.Fatalf("%s: Take %d, %v; want %d, %v", what, x, is, y, was)
				}
			}
			wantStands(t, what, h, len(p.fast), len(p.slow), p.lost)
			if t.Failed() {
				return
			}
		}
	}
}

// goThrough lets things of one type go through both lanes of a hatch of one place too few.
func goThrough[T comparable](t *testing.T, name string, things ...T) {
	t.Helper()
	h := New[T](len(things) - 1)
	for k, x := range things {
		fits := k < len(things)-1
		if h.Fast(x) != fits || h.Slow(x) != fits {
			t.Errorf("P5.1: %s: thing %d: whether it fits is not %v", name, k, fits)
		}
	}
	wantStands(t, "P5.1: "+name, h, len(things)-1, len(things)-1, 2)
	for range 2 {
		for _, x := range things[:len(things)-1] {
			wantTake(t, "P5.1: "+name, h, x)
		}
	}
	wantNone(t, "P5.1: "+name, h)
}

// wide is of more bytes than a channel itself carries.
type wide [1 << 17]byte

func TestTypes(t *testing.T) {
	type pair struct {
		name string
		n    float64
	}
	one, two := 1, 2
	goThrough(t, "int", 0, math.MinInt, math.MaxInt, 0, 1)
	goThrough(t, "string", "", "a", "", "\xff\x00", "lost")
	goThrough(t, "bool", false, true, false, true)
	goThrough(t, "byte", byte(0), 255, 0, 1)
	goThrough(t, "complex", 1i, 0, complex(2, -1), 3)
	goThrough(t, "struct", pair{"x", 0.5}, pair{}, pair{"y", 2}, pair{})
	goThrough(t, "struct without fields", struct{}{}, struct{}{}, struct{}{})
	goThrough(t, "array", [3]int{1, 2, 3}, [3]int{}, [3]int{4})
	goThrough(t, "pointer", &one, nil, &two, &one)
	goThrough(t, "pointer to a pointer", new(*int), nil, new(*int), nil)
	goThrough(t, "error", errors.New("x"), nil, errors.New("y"), nil)
	goThrough[any](t, "any", nil, 1, "a", nil, 2.5, (*int)(nil), pair{}, nil)
	goThrough(t, "channel", make(chan int), nil, make(chan int), nil)
	goThrough(t, "hatch", New[int](1), nil, New[int](2), nil)
	goThrough(t, "wide", wide{1}, wide{}, wide{1<<17 - 1: 9}, wide{})
}

// What can't be compared goes through, too.
func TestListsMapsAndFunctions(t *testing.T) {
	lists := New[[]int](3)
	must(t, lists.Slow([]int{1, 2}), lists.Slow(nil), lists.Fast([]int{}))
	if x, is := lists.Take(); x == nil || len(x) != 0 || !is {
		t.Errorf("P5.1: an empty list: %v, %v", x, is)
	}
	if x, is := lists.Take(); !slices.Equal(x, []int{1, 2}) || !is {
		t.Errorf("P5.1: a list: %v, %v", x, is)
	}
	if x, is := lists.Take(); x != nil || !is {
		t.Errorf("P5.1: a nil list: %v, %v", x, is)
	}
	if x, is := lists.Take(); x != nil || is {
		t.Errorf("P5.1: no list: %v, %v", x, is)
	}
	maps := New[map[string]int](1)
	must(t, maps.Fast(map[string]int{"a": 1}))
	if x, is := maps.Take(); x["a"] != 1 || !is {
		t.Errorf("P5.1: a map: %v, %v", x, is)
	}
	if x, is := maps.Take(); x != nil || is {
		t.Errorf("P5.1: no map: %v, %v", x, is)
	}
	functions := New[func() int](1)
	must(t, functions.Slow(func() int { return 7 }))
	if f, is := functions.Take(); !is || f() != 7 {
		t.Errorf("P5.1: a function: %v", is)
	}
	if f, is := functions.Take(); f != nil || is {
		t.Errorf("P5.1: no function: %v", is)
	}
}

// A lane has what was handed in, not the variable that it was handed in from.
func TestWhatWaitsIsACopy(t *testing.T) {
	h := New[[2]int](8)
	x := [2]int{1, 2}
	for k := range 4 {
		x[0] = k
		must(t, h.Fast(x), h.Slow(x))
	}
	x[0] = 99
	for range 2 {
		for k := range 4 {
			got, is := h.Take()
			if got != [2]int{k, 2} || !is {
				t.Errorf("P5.1: Take %v, %v; want %d", got, is, k)
			}
			got[1] = 99
		}
	}
}

func TestHatchesShareNothing(t *testing.T) {
	a, b := New[int](1), New[int](1)
	must(t, a.Fast(1), b.Slow(2))
	a.Fast(3)
	wantStands(t, "P5.1: the one", a, 1, 0, 1)
	wantStands(t, "P5.1: the other", b, 0, 1, 0)
	wantTake(t, "P5.1: the other", b, 2)
	wantNone(t, "P5.1: the other", b)
	wantTake(t, "P5.1: the one", a, 1)
	wantNone(t, "P5.1: the one", a)
}

func ofNone[T comparable](t *testing.T, name string, x T) {
	t.Helper()
	var h *Hatch[T]
	for range 3 {
		if h.Fast(x) || h.Slow(x) {
			t.Errorf("P5.1: a nil *Hatch of %s has room", name)
		}
		wantNone(t, "P5.1: a nil *Hatch of "+name, h)
		wantStands(t, "P5.1: a nil *Hatch of "+name, h, 0, 0, 0)
	}
}

func TestNilHatch(t *testing.T) {
	ofNone(t, "ints", 7)
	ofNone(t, "texts", "a")
	ofNone(t, "structs", struct{ n int }{1})
	ofNone[any](t, "anything", nil)
	ofNone(t, "pointers", new(int))
	ofNone(t, "wide ones", wide{1})
}

// A Hatch that New did not make has no room: no call of it waits or panics.
func TestHatchNotByNew(t *testing.T) {
	var h Hatch[int]
	if h.Fast(1) || h.Slow(2) {
		t.Error("P0.1: a Hatch that New did not make has room")
	}
	wantNone(t, "P0.1: a Hatch that New did not make", &h)
	wantStands(t, "P0.1: a Hatch that New did not make", &h, 0, 0, 2)
}
