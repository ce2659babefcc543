package bag

import (
	"bytes"
	"cmp"
	"errors"
	"fmt"
	"math"
	"slices"
	"strings"
	"testing"
)

// wantAll holds all that the bag tells of itself against the things that ought to be in it, rising.
func wantAll[T comparable](t *testing.T, what string, b *Bag[T], all ...T) {
	t.Helper()
	each := slices.Compact(slices.Clone(all))
	if b.Len() != len(all) || b.Kinds() != len(each) {
		t.Errorf("%s: Len %d, Kinds %d; want %d and %d", what, b.Len(), b.Kinds(), len(all), len(each))
	}
	if got := b.Each(); !slices.Equal(got, each) {
		t.Errorf("%s: Each %v, want %v", what, got, each)
	}
	for i, want := range all {
		if x, is := b.At(i); x != want || !is {
			t.Errorf("%s: At(%d) %v, %v; want %v", what, i, x, is, want)
		}
	}
	for _, i := range []int{math.MinInt, math.MinInt32, -2, -1, len(all), len(all) + 1, math.MaxInt32, 1 << 32, math.MaxInt} {
		wantNoneAt(t, what, b, i)
	}
}

func wantNoneAt[T comparable](t *testing.T, what string, b *Bag[T], i int) {
	t.Helper()
	var zero T
	if x, is := b.At(i); x != zero || is {
		t.Errorf("%s: At(%d) %v, %v where there is none", what, i, x, is)
	}
}

func wantCount[T any](t *testing.T, what string, b *Bag[T], x T, want int) {
	t.Helper()
	if n := b.Count(x); n != want {
		t.Errorf("%s: Count(%v) %d, want %d", what, x, n, want)
	}
}

func wantAdd[T any](t *testing.T, what string, b *Bag[T], x T, n, want int) {
	t.Helper()
	if now := b.Add(x, n); now != want {
		t.Errorf("%s: Add(%v, %d) %d, want %d", what, x, n, now, want)
	}
	wantCount(t, what, b, x, want)
}

func TestNew(t *testing.T) {
	b := New(cmp.Compare[int])
	if b == nil {
		t.Fatal("P6.1: New of a compare is nil")
	}
	wantAll(t, "P6.1: a new one", b)
	wantCount(t, "P6.1: a new one", b, 0, 0)
	wantCount(t, "P6.1: a new one", b, 7, 0)
}

func TestNewOfNilCompare(t *testing.T) {
	if New[int](nil) != nil || New[string](nil) != nil || New[any](nil) != nil || New[[]byte](nil) != nil || New[struct{}](nil) != nil {
		t.Error("P6.1: New of a nil compare isn't nil")
	}
	var compare func(a, b error) int
	if New(compare) != nil {
		t.Error("P6.1: New of a nil variable isn't nil")
	}
}

func TestAdd(t *testing.T) {
	b := New(cmp.Compare[string])
	wantAdd(t, "P6.1: the first", b, "m", 1, 1)
	wantAll(t, "P6.1: the first", b, "m")
	wantAdd(t, "P6.1: more", b, "m", 2, 3)
	wantAll(t, "P6.1: more", b, "m", "m", "m")
	wantAdd(t, "P6.1: another", b, "c", 2, 2)
	wantAll(t, "P6.1: another", b, "c", "c", "m", "m", "m")
	wantAdd(t, "P6.1: 0", b, "m", 0, 3)
	wantAdd(t, "P6.1: 0 of none", b, "x", 0, 0)
	wantAll(t, "P6.1: 0", b, "c", "c", "m", "m", "m")
	wantAdd(t, "P6.1: fewer", b, "m", -1, 2)
	wantAll(t, "P6.1: fewer", b, "c", "c", "m", "m")
	wantAdd(t, "P6.1: just all of them fewer", b, "c", -2, 0)
	wantAll(t, "P6.1: just all of them fewer", b, "m", "m")
	wantAdd(t, "P6.1: fewer than none", b, "m", -3, 0)
	wantAll(t, "P6.1: fewer than none", b)
	wantAdd(t, "P6.1: what was too few is forgotten", b, "m", 1, 1)
	wantAll(t, "P6.1: what was too few is forgotten", b, "m")
}

// Of what is not there nothing can be fewer, and that leaves no trace.
func TestAddBelowNone(t *testing.T) {
	for _, n := range []int{0, -1, -2, -1000, math.MinInt32, math.MinInt + 1, math.MinInt} {
		what := fmt.Sprintf("P6.1: %d of what isn't there", n)
		b := New(cmp.Compare[int])
		wantAdd(t, what, b, 5, n, 0)
		wantAll(t, what, b)
		wantAdd(t, what, b, 5, 1, 1)
		wantAdd(t, what, b, 4, n, 0)
		wantAdd(t, what, b, 6, n, 0)
		wantAll(t, what, b, 5)
		b.Add(5, 2)
		if n < -2 {
			wantAdd(t, what+", more than are there", b, 5, n, 0)
			wantAll(t, what+", more than are there", b)
		}
	}
}

func TestCount(t *testing.T) {
	b := New(cmp.Compare[int])
	for x := range 10 {
		b.Add(10*x, x+1)
	}
	for x := range 10 {
		wantCount(t, "P6.1: there", b, 10*x, x+1)
		wantCount(t, "P6.1: never there", b, 10*x-1, 0)
		wantCount(t, "P6.1: never there", b, 10*x+1, 0)
	}
	b.Add(0, -1)
	b.Add(50, -99)
	b.Add(90, -10)
	for _, x := range []int{0, 50, 90} {
		wantCount(t, "P6.1: that was there", b, x, 0)
	}
	for _, x := range []int{10, 40, 60, 80} {
		wantCount(t, "P6.1: beside what was there", b, x, x/10+1)
	}
	if b.Kinds() != 7 {
		t.Errorf("P6.1: Kinds %d; Count makes no kind", b.Kinds())
	}
}

func TestLenAndKinds(t *testing.T) {
	b := New(cmp.Compare[int])
	steps := []struct{ x, n, all, kinds int }{
		{3, 1, 1, 1}, {3, 1, 2, 1}, {1, 5, 7, 2}, {2, 1, 8, 3}, {2, 0, 8, 3}, {9, 0, 8, 3}, {9, -4, 8, 3},
		{1, -4, 4, 3}, {1, -1, 3, 2}, {1, -1, 3, 2}, {1, 1, 4, 3}, {3, -9, 2, 2}, {2, -1, 1, 1}, {1, -2, 0, 0}, {4, 400, 400, 1},
	}
	for k, s := range steps {
		b.Add(s.x, s.n)
		if b.Len() != s.all || b.Kinds() != s.kinds {
			t.Errorf("P6.1: step %d: Len %d, Kinds %d; want %d and %d", k, b.Len(), b.Kinds(), s.all, s.kinds)
		}
	}
}

// A kind of which none is left is gone wherever it stood, and comes anew like any other.
func TestNoneLeft(t *testing.T) {
	all := []string{"a", "b", "c", "d", "e"}
	for k, gone := range all {
		b := New(cmp.Compare[string])
		for _, x := range all {
			b.Add(x, 2)
		}
		b.Add(gone, -2)
		var left, whole []string
		for j, x := range all {
			whole = append(whole, x, x)
			if j != k {
				left = append(left, x, x)
			}
		}
		wantAll(t, "P6.1: without "+gone, b, left...)
		wantCount(t, "P6.1: without "+gone, b, gone, 0)
		wantAdd(t, "P6.1: anew", b, gone, 2, 2)
		wantAll(t, "P6.1: anew", b, whole...)
	}
}

func TestAt(t *testing.T) {
	b := New(cmp.Compare[int])
	wantNoneAt(t, "P6.1: of nothing", b, 0)
	b.Add(20, 3)
	b.Add(10, 1)
	b.Add(30, 2)
	for i, want := range []int{10, 20, 20, 20, 30, 30} {
		if x, is := b.At(i); x != want || !is {
			t.Errorf("P6.1: At(%d) %d, %v; want %d", i, x, is, want)
		}
	}
	for _, i := range []int{-1, -6, math.MinInt, 6, 7, math.MaxInt} {
		wantNoneAt(t, "P6.1: of six", b, i)
	}
	wantAll(t, "P6.1: At takes nothing away", b, 10, 20, 20, 20, 30, 30)
}

// A thing that is the zero value of its type is there like others.
func TestAtOfZero(t *testing.T) {
	b := New(cmp.Compare[int])
	b.Add(0, 1)
	if x, is := b.At(0); x != 0 || !is {
		t.Errorf("P6.1: At(0) %d, %v; want 0", x, is)
	}
	wantAll(t, "P6.1: a zero", b, 0)
	texts := New(strings.Compare)
	texts.Add("", 2)
	wantAll(t, "P6.1: empty texts", texts, "", "")
}

// orders is all the ways in which so many things can come.
func orders(n int) [][]int {
	if n == 0 {
		return [][]int{nil}
	}
	var all [][]int
	for _, o := range orders(n - 1) {
		for k := range n {
			all = append(all, slices.Insert(slices.Clone(o), k, n-1))
		}
	}
	return all
}

func TestRisingWhicheverWayTheyCame(t *testing.T) {
	for _, o := range orders(6) {
		b := New(cmp.Compare[int])
		for _, x := range o {
			b.Add(x, x%3+1)
		}
		wantAll(t, fmt.Sprintf("P6.1: they came as %v", o), b, 0, 1, 1, 2, 2, 2, 3, 4, 4, 5, 5, 5)
		for _, x := range o[:3] {
			b.Add(x, -3)
		}
		left := slices.Sorted(slices.Values(o[3:]))
		if got := b.Each(); !slices.Equal(got, left) {
			t.Errorf("P6.1: they came as %v, three went: Each %v", o, got)
		}
		if t.Failed() {
			return
		}
	}
}

// byName compares without regard to which letters are great ones.
func byName(a, b string) int { return strings.Compare(strings.ToLower(a), strings.ToLower(b)) }

// Things that compare alike are one kind, which shows itself as the one of them that came first.
func TestAlikeButDifferent(t *testing.T) {
	b := New(byName)
	wantAdd(t, "P6.1: alike", b, "Anna", 1, 1)
	wantAdd(t, "P6.1: alike", b, "ANNA", 2, 3)
	wantAdd(t, "P6.1: alike", b, "berta", 1, 1)
	wantAdd(t, "P6.1: alike", b, "anna", 0, 3)
	for _, x := range []string{"anna", "ANNA", "Anna", "aNNa"} {
		wantCount(t, "P6.1: alike", b, x, 3)
	}
	wantAll(t, "P6.1: alike", b, "Anna", "Anna", "Anna", "berta")
	wantAdd(t, "P6.1: alike ones fewer", b, "aNNA", -2, 1)
	wantAll(t, "P6.1: alike ones fewer", b, "Anna", "berta")
	wantAdd(t, "P6.1: no alike one", b, "anna", -1, 0)
	wantAll(t, "P6.1: no alike one", b, "berta")
	wantAdd(t, "P6.1: alike ones anew", b, "ANNA", 2, 2)
	wantAll(t, "P6.1: alike ones anew", b, "ANNA", "ANNA", "berta")
}

// All is alike to a compare that tells no two things apart.
func TestAllAlike(t *testing.T) {
	b := New(func(a, b int) int { return 0 })
	for x := range 10 {
		wantAdd(t, "P6.1: all alike", b, x, 1, x+1)
	}
	wantAll(t, "P6.1: all alike", b, make([]int, 10)...)
	wantAdd(t, "P6.1: all alike", b, 77, -10, 0)
	wantAll(t, "P6.1: all alike", b)
}

func TestOtherOrders(t *testing.T) {
	falling := New(func(a, b int) int { return cmp.Compare(b, a) })
	byLast := New(func(a, b int) int { return cmp.Compare(a%10, b%10) })
	byLength := New(func(a, b string) int { return len(a) - len(b) })
	for _, x := range []int{15, 7, 33, 2, 60} {
		falling.Add(x, 1)
		byLast.Add(x, 1)
		byLength.Add(strings.Repeat("x", x), 1)
	}
	falling.Add(7, 1)
	wantAll(t, "P6.1: falling", falling, 60, 33, 15, 7, 7, 2)
	byLast.Add(10, 1)
	wantAll(t, "P6.1: by the last digit", byLast, 60, 60, 2, 33, 15, 7)
	byLength.Add("yy", -1)
	wantAll(t, "P6.1: by length", byLength, strings.Repeat("x", 7), strings.Repeat("x", 15), strings.Repeat("x", 33), strings.Repeat("x", 60))
}

// Of what compare tells only its side of nought counts.
func TestSideOfNought(t *testing.T) {
	for _, far := range []int{1, 2, 7, math.MaxInt32, 1 << 32, math.MaxInt} {
		b := New(func(x, y int) int { return far * cmp.Compare(x, y) })
		for _, x := range []int{4, 1, 3, 1, 2, 4} {
			b.Add(x, 1)
		}
		wantAll(t, fmt.Sprintf("P6.1: a compare that tells %d", far), b, 1, 1, 2, 3, 4, 4)
	}
	uneven := New(func(x, y int) int {
		if x < y {
			return math.MinInt
		}
		return x - y
	})
	for _, x := range []int{4, 1, 3, 1, 2, 4} {
		uneven.Add(x, 1)
	}
	wantAll(t, "P6.1: a compare that tells the least int", uneven, 1, 1, 2, 3, 4, 4)
}

// holdsTypes puts two things of one type, the lesser one and the greater one, the greater one first.
func holdsTypes[T comparable](t *testing.T, name string, compare func(a, b T) int, less, more T) {
	t.Helper()
	what := "P6.1: " + name
	b := New(compare)
	wantAdd(t, what, b, more, 2, 2)
	wantAdd(t, what, b, less, 1, 1)
	wantAdd(t, what, b, less, 1, 2)
	wantAll(t, what, b, less, less, more, more)
	wantAdd(t, what, b, more, -1, 1)
	wantAll(t, what, b, less, less, more)
	wantAdd(t, what, b, less, -5, 0)
	wantAll(t, what, b, more)
	wantAdd(t, what, b, more, -1, 0)
	wantAll(t, what, b)
}

// wide is a thing of many bytes.
type wide [1 << 17]byte

func TestTypes(t *testing.T) {
	type pair struct {
		name string
		n    float64
	}
	holdsTypes(t, "int", cmp.Compare, math.MinInt, math.MaxInt)
	holdsTypes(t, "byte", cmp.Compare, byte(0), 255)
	holdsTypes(t, "uint64", cmp.Compare, uint64(0), math.MaxUint64)
	holdsTypes(t, "float", cmp.Compare, math.Inf(-1), 0.5)
	holdsTypes(t, "string", cmp.Compare, "", "\xff\x00")
	holdsTypes(t, "struct", func(a, b pair) int {
		return cmp.Or(cmp.Compare(a.name, b.name), cmp.Compare(a.n, b.n))
	}, pair{"a", 1}, pair{"a", 1.5})
	holdsTypes(t, "array", func(a, b [2]int) int { return slices.Compare(a[:], b[:]) }, [2]int{1, 2}, [2]int{2, 1})
	holdsTypes(t, "bool", func(a, b bool) int { return strings.Compare(fmt.Sprint(a), fmt.Sprint(b)) }, false, true)
	holdsTypes(t, "complex", func(a, b complex128) int { return cmp.Compare(imag(a), imag(b)) }, 2-1i, 1)
	holdsTypes(t, "pointer", func(a, b *int) int { return cmp.Compare(*a, *b) }, new(1), new(2))
	holdsTypes(t, "error", func(a, b error) int { return cmp.Compare(a.Error(), b.Error()) }, errors.New("a"), errors.New("b"))
	holdsTypes(t, "any", func(a, b any) int { return cmp.Compare(fmt.Sprint(a), fmt.Sprint(b)) }, any(17), any("a"))
	holdsTypes(t, "wide", func(a, b wide) int { return bytes.Compare(a[:], b[:]) }, wide{1<<17 - 1: 1}, wide{1})
}

// What has no bytes at all is one kind.
func TestNoBytes(t *testing.T) {
	b := New(func(a, b struct{}) int { return 0 })
	wantAdd(t, "P6.1: no bytes", b, struct{}{}, 3, 3)
	wantAll(t, "P6.1: no bytes", b, struct{}{}, struct{}{}, struct{}{})
	wantAdd(t, "P6.1: no bytes", b, struct{}{}, -4, 0)
	wantAll(t, "P6.1: no bytes", b)
}

// What can't be compared by the language is by what is handed in.
func TestLists(t *testing.T) {
	b := New(bytes.Compare)
	wantAdd(t, "P6.1: lists", b, []byte{2}, 1, 1)
	wantAdd(t, "P6.1: lists", b, nil, 1, 1)
	wantAdd(t, "P6.1: lists", b, []byte{1, 9}, 2, 2)
	wantAdd(t, "P6.1: lists", b, []byte{}, 1, 2)
	if b.Len() != 5 || b.Kinds() != 3 {
		t.Errorf("P6.1: lists: Len %d, Kinds %d", b.Len(), b.Kinds())
	}
	for i, want := range [][]byte{{}, {}, {1, 9}, {1, 9}, {2}} {
		if x, is := b.At(i); !bytes.Equal(x, want) || !is {
			t.Errorf("P6.1: lists: At(%d) %v, %v", i, x, is)
		}
	}
	if x, is := b.At(5); x != nil || is {
		t.Errorf("P6.1: lists: At(5) %v, %v", x, is)
	}
}

// What Each answered is the caller's: elements and spare room.
func TestEachIsNew(t *testing.T) {
	b := New(cmp.Compare[int])
	for x := range 5 {
		b.Add(x, 1)
	}
	one, two := b.Each(), b.Each()
	slices.Reverse(one)
	_ = append(one[:2], -7, -8)
	for k := range one[:cap(one)] {
		one[:cap(one)][k] = 99
	}
	if !slices.Equal(two, []int{0, 1, 2, 3, 4}) {
		t.Errorf("P0.3: another answer became %v", two)
	}
	wantAll(t, "P0.3: behind a turned answer", b, 0, 1, 2, 3, 4)
	b.Add(2, -1)
	b.Add(9, 1)
	if !slices.Equal(two, []int{0, 1, 2, 3, 4}) {
		t.Errorf("P0.3: a later Add changed an answer: %v", two)
	}
	for k := range two[:cap(two)] {
		two[:cap(two)][k] = -1
	}
	wantAll(t, "P0.3: behind two turned answers", b, 0, 1, 3, 4, 9)
	b.Add(5, 1)
	wantAll(t, "P0.3: behind one more", b, 0, 1, 3, 4, 5, 9)
}

// The bag has what was handed in, not the variable that it was handed in from.
func TestWhatIsThereIsACopy(t *testing.T) {
	b := New(func(a, b [2]int) int { return cmp.Compare(a[0], b[0]) })
	x := [2]int{}
	for k := range 4 {
		x[0] = k
		b.Add(x, 1)
	}
	x[0] = 99
	y, _ := b.At(2)
	y[0] = 77
	wantAll(t, "P0.3", b, [2]int{0}, [2]int{1}, [2]int{2}, [2]int{3})
}

func TestBagsShareNothing(t *testing.T) {
	a, b := New(cmp.Compare[int]), New(cmp.Compare[int])
	a.Add(1, 2)
	b.Add(2, 1)
	wantAll(t, "P6.1: the one", a, 1, 1)
	wantAll(t, "P6.1: the other", b, 2)
	b.Add(1, -1)
	a.Add(1, -2)
	wantAll(t, "P6.1: the one", a)
	wantAll(t, "P6.1: the other", b, 2)
}

// Asking changes nothing.
func TestAskedTwice(t *testing.T) {
	b := New(cmp.Compare[int])
	b.Add(2, 2)
	b.Add(1, 1)
	for range 3 {
		wantAll(t, "P0.5", b, 1, 2, 2)
		wantCount(t, "P0.5", b, 2, 2)
		wantCount(t, "P0.5", b, 3, 0)
	}
}

// No number wraps: what would be more than an int is the greatest int.
func TestHugeNumbers(t *testing.T) {
	b := New(cmp.Compare[string])
	wantAdd(t, "P0.6: near the end", b, "b", math.MaxInt-2, math.MaxInt-2)
	wantAdd(t, "P0.6: near the end", b, "b", 1, math.MaxInt-1)
	wantAdd(t, "P0.6: just the end", b, "b", 1, math.MaxInt)
	wantAdd(t, "P0.6", b, "b", 1, math.MaxInt)
	wantAdd(t, "P0.6", b, "b", math.MaxInt, math.MaxInt)
	wantAdd(t, "P0.6", b, "a", math.MaxInt-1, math.MaxInt-1)
	wantAdd(t, "P0.6", b, "c", 5, 5)
	if b.Len() != math.MaxInt || b.Kinds() != 3 {
		t.Errorf("P0.6: Len %d, Kinds %d", b.Len(), b.Kinds())
	}
	for i, want := range map[int]string{0: "a", math.MaxInt - 2: "a", math.MaxInt - 1: "b", math.MaxInt: "b"} {
		if x, is := b.At(i); x != want || !is {
			t.Errorf("P0.6: At(%d) %s, %v; want %s", i, x, is, want)
		}
	}
	wantNoneAt(t, "P0.6", b, -1)
	wantAdd(t, "P0.6", b, "b", -math.MaxInt+1, 1)
	wantAdd(t, "P0.6", b, "a", math.MinInt, 0)
	wantAll(t, "P0.6: fewer again", b, "b", "c", "c", "c", "c", "c")
}

// At far places nothing is gone through thing by thing.
func TestManyOfAKind(t *testing.T) {
	b := New(cmp.Compare[int])
	b.Add(1, 1<<30)
	b.Add(2, 1<<30-1)
	if b.Len() != math.MaxInt32 || b.Kinds() != 2 {
		t.Errorf("P6.1: Len %d, Kinds %d", b.Len(), b.Kinds())
	}
	for i, want := range map[int]int{0: 1, 1<<30 - 1: 1, 1 << 30: 2, 1<<31 - 2: 2} {
		if x, is := b.At(i); x != want || !is {
			t.Errorf("P6.1: At(%d) %d, %v; want %d", i, x, is, want)
		}
	}
	wantNoneAt(t, "P6.1: behind the last", b, 1<<31-1)
}

func ofNone[T comparable](t *testing.T, name string, x T) {
	t.Helper()
	what := "P6.1: a nil *Bag of " + name
	var b *Bag[T]
	for _, n := range []int{1, 0, -1, math.MaxInt, math.MinInt} {
		wantAdd(t, what, b, x, n, 0)
		wantAll(t, what, b)
		if b.Each() != nil {
			t.Errorf("%s: Each isn't nil", what)
		}
		wantNoneAt(t, what, b, 0)
	}
}

func TestNilBag(t *testing.T) {
	ofNone(t, "ints", 7)
	ofNone(t, "texts", "a")
	ofNone(t, "structs", struct{ n int }{1})
	ofNone[any](t, "anything", nil)
	ofNone(t, "pointers", new(int))
	ofNone(t, "wide ones", wide{1})
	ofNone(t, "what a nil compare made", struct{}{})
	b := New[int](nil)
	wantAdd(t, "P6.1: New of a nil compare", b, 1, 1, 0)
	wantAll(t, "P6.1: New of a nil compare", b)
}

// A Bag that New did not make has no compare: no call of it panics, and nothing comes into it.
func TestBagNotByNew(t *testing.T) {
	var b Bag[int]
	for _, n := range []int{1, 5, 0, -1} {
		wantAdd(t, "P0.1: a Bag that New did not make", &b, n, n, 0)
	}
	wantAll(t, "P0.1: a Bag that New did not make", &b)
}

// A compare that panics at some things: they are not there, and nothing changes.
func TestCompareThatPanics(t *testing.T) {
	b := New(func(x, y any) int { return cmp.Compare(x.(int), y.(int)) })
	for _, x := range []int{3, 1, 2, 5, 4} {
		b.Add(x, 1)
	}
	for _, n := range []int{1, 0, -1} {
		wantAdd[any](t, "P0.1: a compare that panics", b, "x", n, 0)
		wantAdd[any](t, "P0.1: a compare that panics", b, nil, n, 0)
		wantAll[any](t, "P0.1: a compare that panics", b, 1, 2, 3, 4, 5)
	}
	wantAdd[any](t, "P0.1: behind a panic", b, 2, 1, 2)
	wantAll[any](t, "P0.1: behind a panic", b, 1, 2, 2, 3, 4, 5)
}

// A compare that knows no order: the calls end and the numbers agree with one another.
func TestCompareWithoutOrder(t *testing.T) {
	d := dice(9)
	compares := []func(a, b int) int{
		func(a, b int) int { return 1 },
		func(a, b int) int { return -1 },
		func(a, b int) int { return a*7%5 - b*3%4 },
		func(a, b int) int { return d.of(3) - 1 },
	}
	for k, compare := range compares {
		b := New(compare)
		for range 500 {
			b.Add(d.of(20), d.of(7)-3)
			b.Count(d.of(20))
			_, last := b.At(b.Len() - 1)
			_, more := b.At(b.Len())
			if last != (b.Len() > 0) || more || len(b.Each()) != b.Kinds() || b.Kinds() > b.Len() {
				t.Fatalf("P0.1: compare %d: Len %d, Kinds %d, Each %v", k, b.Len(), b.Kinds(), b.Each())
			}
		}
	}
}

// dice throws numbers.
type dice uint64

func (d *dice) of(k int) int {
	*d = *d*6364136223846793005 + 1442695040888963407
	return int(uint64(*d)>>33) % k
}

// Steps of all kinds, held against a plainer bag, a sorted list of all things, behind each.
func TestAgainstPlain(t *testing.T) {
	d := dice(6)
	for run := range 200 {
		b := New(cmp.Compare[int])
		var all []int
		kinds := run%25 + 1
		for step := range 120 {
			x, n := d.of(kinds), d.of(8)-4
			// Now more comes, now more goes, so that kinds come and go.
			if step/40%2 == 1 {
				n--
			}
			for range n {
				all = append(all, x)
			}
			for range -n {
				if k := slices.Index(all, x); k >= 0 {
					all = slices.Delete(all, k, k+1)
				}
			}
			slices.Sort(all)
			count := 0
			for _, y := range all {
				if y == x {
					count++
				}
			}
			what := fmt.Sprintf("P6.1: run %d, step %d", run, step)
			wantAdd(t, what, b, x, n, count)
			wantAll(t, what, b, all...)
			if t.Failed() {
				return
			}
		}
	}
}

// Many kinds, which come in no order and go in another.
func TestManyKinds(t *testing.T) {
	const many = 3001
	b := New(cmp.Compare[int])
	var all []int
	for k := range many {
		wantAdd(t, "P6.1: many kinds", b, k*1009%many, 1, 1)
		all = append(all, k)
	}
	wantAll(t, "P6.1: many kinds", b, all...)
	for k := range many - 1 {
		wantAdd(t, "P6.1: many kinds go", b, k*2003%many, -1, 0)
	}
	wantAll(t, "P6.1: one kind left", b, (many-1)*2003%many)
}
