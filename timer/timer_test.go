package timer

import (
	"cmp"
	"fmt"
	"maps"
	"math"
	"slices"
	"strings"
	"testing"
)

// wantAll holds all that the timer tells of who is there against who ought to be, rising.
func wantAll[K cmp.Ordered](t *testing.T, what string, x *Timer[K], all ...K) {
	t.Helper()
	if got := x.All(); !slices.Equal(got, all) {
		t.Errorf("%s: All %v, want %v", what, got, all)
	}
	for _, k := range all {
		if !x.Has(k) || x.Age(k) < 0 {
			t.Errorf("%s: Has(%v) %v, Age %d of one who is there", what, k, x.Has(k), x.Age(k))
		}
	}
}

func wantNobody[K cmp.Ordered](t *testing.T, what string, x *Timer[K], ks ...K) {
	t.Helper()
	for _, k := range ks {
		if x.Has(k) || x.Age(k) != -1 {
			t.Errorf("%s: Has(%v) %v, Age %d of nobody", what, k, x.Has(k), x.Age(k))
		}
	}
}

func wantAge[K cmp.Ordered](t *testing.T, what string, x *Timer[K], k K, age int) {
	t.Helper()
	if got := x.Age(k); got != age || !x.Has(k) {
		t.Errorf("%s: Age(%v) %d, Has %v; want %d", what, k, got, x.Has(k), age)
	}
}

func wantHeard[K cmp.Ordered](t *testing.T, what string, x *Timer[K], k K, isNew bool) {
	t.Helper()
	if got := x.Heard(k); got != isNew {
		t.Errorf("%s: Heard(%v) %v, want %v", what, k, got, isNew)
	}
	wantAge(t, what, x, k, 0)
}

func wantGone[K cmp.Ordered](t *testing.T, what string, x *Timer[K], k K, was bool) {
	t.Helper()
	if got := x.Gone(k); got != was {
		t.Errorf("%s: Gone(%v) %v, want %v", what, k, got, was)
	}
	wantNobody(t, what, x, k)
}

// wantTick ticks, and holds what is told against who ought to be, rising; those who are there stay.
func wantTick[K cmp.Ordered](t *testing.T, what string, x *Timer[K], silent ...K) {
	t.Helper()
	all := x.All()
	if got := x.Tick(); !slices.Equal(got, silent) {
		t.Errorf("%s: Tick %v, want %v", what, got, silent)
	}
	wantAll(t, what+": they stay", x, all...)
}

func TestNew(t *testing.T) {
	for _, most := range []int{math.MinInt, -1, 0, 1, 2, 6, math.MaxInt} {
		what := fmt.Sprintf("P7.1: New(%d)", most)
		x := New[string](most)
		if x == nil {
			t.Fatal(what, "is nil")
		}
		wantAll(t, what, x)
		wantNobody(t, what, x, "", "a")
		for range 10 {
			wantTick(t, what, x)
		}
		wantAll(t, what, x)
		wantNobody(t, what, x, "", "a")
	}
}

func TestHeard(t *testing.T) {
	x := New[string](3)
	wantHeard(t, "P7.1: the first", x, "m", true)
	wantAll(t, "P7.1: the first", x, "m")
	wantHeard(t, "P7.1: it speaks again", x, "m", false)
	wantAll(t, "P7.1: it speaks again", x, "m")
	wantHeard(t, "P7.1: another", x, "c", true)
	wantHeard(t, "P7.1: one more", x, "x", true)
	wantHeard(t, "P7.1: both again", x, "c", false)
	wantHeard(t, "P7.1: both again", x, "m", false)
	wantAll(t, "P7.1: three", x, "c", "m", "x")
	wantNobody(t, "P7.1: beside them", x, "", "b", "d", "n", "z")
	wantTick(t, "P7.1", x)
	wantHeard(t, "P7.1: known, and a tick later", x, "m", false)
	wantHeard(t, "P7.1: new, and a tick later", x, "n", true)
	wantAll(t, "P7.1: four", x, "c", "m", "n", "x")
}

func TestHeardAgainBehindGone(t *testing.T) {
	x := New[int](2)
	x.Heard(1)
	x.Heard(2)
	x.Tick()
	wantGone(t, "P7.1", x, 1, true)
	wantHeard(t, "P7.1: who went is new", x, 1, true)
	wantHeard(t, "P7.1: and known from then on", x, 1, false)
	wantAge(t, "P7.1: the other", x, 2, 1)
	wantTick(t, "P7.1: the ticks ahead of Gone are forgotten", x, 2)
	wantAge(t, "P7.1", x, 1, 1)
	wantTick(t, "P7.1", x, 1, 2)
	wantGone(t, "P7.1: once more", x, 1, true)
	wantHeard(t, "P7.1: once more", x, 1, true)
	wantAll(t, "P7.1", x, 1, 2)
}

func TestAge(t *testing.T) {
	x := New[string](3)
	wantNobody(t, "P7.1: ahead of all", x, "a", "")
	x.Heard("a")
	for ticks := range 10 {
		wantAge(t, "P7.1: silent", x, "a", ticks)
		wantAge(t, "P7.1: asked twice", x, "a", ticks)
		wantNobody(t, "P7.1", x, "b")
		x.Tick()
	}
	x.Heard("b")
	wantAge(t, "P7.1: who came later", x, "b", 0)
	wantAge(t, "P7.1: another's word", x, "a", 10)
	x.Tick()
	x.Tick()
	wantAge(t, "P7.1: who came later", x, "b", 2)
	wantAge(t, "P7.1", x, "a", 12)
	wantHeard(t, "P7.1: a word in between", x, "a", false)
	x.Tick()
	wantAge(t, "P7.1: behind a word in between", x, "a", 1)
	wantAge(t, "P7.1: the silent one", x, "b", 3)
	x.Gone("b")
	wantNobody(t, "P7.1: who went", x, "b")
	wantAge(t, "P7.1: another's going", x, "a", 1)
}

func TestGone(t *testing.T) {
	x := New[int](1)
	wantGone(t, "P7.1: nobody is there", x, 5, false)
	x.Heard(5)
	x.Heard(7)
	wantGone(t, "P7.1: it is not there", x, 6, false)
	wantGone(t, "P7.1: it is not there", x, 4, false)
	wantGone(t, "P7.1: it is not there", x, 8, false)
	wantAll(t, "P7.1: nobody went", x, 5, 7)
	wantGone(t, "P7.1: it is there", x, 5, true)
	wantAll(t, "P7.1: one went", x, 7)
	wantGone(t, "P7.1: it went already", x, 5, false)
	wantGone(t, "P7.1: it went already", x, 5, false)
	wantAll(t, "P7.1: it went already", x, 7)
	wantTick(t, "P7.1: of who went nothing is told", x, 7)
	wantGone(t, "P7.1: who was told", x, 7, true)
	wantTick(t, "P7.1: all went", x)
	wantAll(t, "P7.1: all went", x)
	wantGone(t, "P7.1: all went", x, 7, false)
}

// Who goes takes nobody along, wherever it stood, and comes anew like any other.
func TestGoneFromEachPlace(t *testing.T) {
	all := []string{"a", "b", "c", "d", "e"}
	for place, gone := range all {
		x := New[string](1)
		for _, k := range all {
			x.Tick()
			x.Heard(k)
		}
		wantGone(t, "P7.1: without "+gone, x, gone, true)
		left := slices.Delete(slices.Clone(all), place, place+1)
		wantAll(t, "P7.1: without "+gone, x, left...)
		for age, k := range []string{"e", "d", "c", "b", "a"} {
			if k != gone {
				wantAge(t, "P7.1: without "+gone, x, k, age)
			}
		}
		wantTick(t, "P7.1: without "+gone, x, left...)
		wantHeard(t, "P7.1: anew", x, gone, true)
		wantAll(t, "P7.1: anew", x, all...)
	}
}

func TestHas(t *testing.T) {
	x := New[int](2)
	for k, step := range []struct {
		do  func()
		has bool
	}{
		{func() {}, false},
		{func() { x.Gone(3) }, false},
		{func() { x.Tick() }, false},
		{func() { x.Heard(4) }, false},
		{func() { x.Heard(3) }, true},
		{func() { x.Heard(3) }, true},
		{func() { x.Tick() }, true},
		{func() { x.Tick() }, true},
		{func() { x.Tick() }, true},
		{func() { x.Gone(4) }, true},
		{func() { x.Gone(3) }, false},
		{func() { x.Gone(3) }, false},
		{func() { x.Tick() }, false},
		{func() { x.Heard(3) }, true},
	} {
		step.do()
		if x.Has(3) != step.has {
			t.Errorf("P7.1: step %d: Has %v", k, x.Has(3))
		}
	}
}

func TestAllOfNobody(t *testing.T) {
	x := New[string](1)
	wantAll(t, "P7.1: nobody came", x)
	x.Heard("")
	wantAll(t, "P7.1: the empty text is somebody", x, "")
	x.Gone("")
	wantAll(t, "P7.1: all went", x)
}

// orders is all the ways in which so many can come.
func orders(n int) [][]int {
	if n == 0 {
		return [][]int{nil}
	}
	var all [][]int
	for _, o := range orders(n - 1) {
		for k := range n {
			all = append(all, slices.Insert(slices.Clone(o), k, n-1))
		}
	}
	return all
}

func TestRisingWhicheverWayTheyCame(t *testing.T) {
	for _, o := range orders(6) {
		what := fmt.Sprintf("P7.1: they came as %v", o)
		x := New[int](2)
		for _, k := range o {
			wantHeard(t, what, x, k, true)
		}
		wantAll(t, what, x, 0, 1, 2, 3, 4, 5)
		wantTick(t, what, x)
		for _, k := range o[:2] {
			wantHeard(t, what, x, k, false)
		}
		wantAll(t, what, x, 0, 1, 2, 3, 4, 5)
		silent := slices.Sorted(slices.Values(o[2:]))
		wantTick(t, what, x, silent...)
		wantTick(t, what, x, 0, 1, 2, 3, 4, 5)
		for _, k := range o[:2] {
			wantGone(t, what, x, k, true)
		}
		wantTick(t, what+", two went", x, silent...)
		wantAll(t, what+", two went", x, silent...)
		if t.Failed() {
			return
		}
	}
}

// One whose Age is below most is not told; who is told once is told at each tick from then on, and stays.
func TestTickAtMost(t *testing.T) {
	for most := 1; most <= 10; most++ {
		what := fmt.Sprintf("P7.1: most %d", most)
		x := New[string](most)
		x.Heard("a")
		for age := 1; age < most; age++ {
			wantTick(t, what+": below", x)
			wantAge(t, what+": below", x, "a", age)
		}
		for age := most; age < most+10; age++ {
			wantTick(t, what+": not below", x, "a")
			wantAge(t, what+": not below", x, "a", age)
		}
		wantHeard(t, what, x, "a", false)
		for range most - 1 {
			wantTick(t, what+": behind a word", x)
		}
		wantTick(t, what+": behind a word", x, "a")
	}
}

func TestTickOfSeveral(t *testing.T) {
	x := New[int](2)
	wantTick(t, "P7.1: nobody", x)
	x.Heard(30)
	x.Heard(10)
	wantTick(t, "P7.1: none silent for so long", x)
	x.Heard(20)
	x.Heard(40)
	wantTick(t, "P7.1: just most", x, 10, 30)
	wantTick(t, "P7.1: just most, and more", x, 10, 20, 30, 40)
	x.Heard(10)
	x.Heard(40)
	x.Heard(25)
	wantTick(t, "P7.1: three spoke", x, 20, 30)
	x.Gone(30)
	wantTick(t, "P7.1: one went", x, 10, 20, 25, 40)
	for _, k := range []int{10, 20, 25, 40} {
		x.Heard(k)
	}
	wantTick(t, "P7.1: all spoke", x)
}

func TestWhoSpeaksAtEachTick(t *testing.T) {
	x := New[string](2)
	x.Heard("silent")
	wantHeard(t, "P7.1", x, "loud", true)
	wantTick(t, "P7.1: the first", x)
	for range 20 {
		wantHeard(t, "P7.1: at each tick", x, "loud", false)
		wantTick(t, "P7.1: at each tick", x, "silent")
		wantAge(t, "P7.1: at each tick", x, "loud", 1)
	}
	y := New[string](1)
	for k := range 20 {
		wantHeard(t, "P7.1: most 1", y, "loud", k == 0)
		wantTick(t, "P7.1: most 1", y, "loud")
	}
}

// Behind a tick everybody's Age is 1 or more.
func TestMostBelowTwo(t *testing.T) {
	for _, most := range []int{1, 0, -1, -2, -7, math.MinInt32, math.MinInt + 1, math.MinInt} {
		what := fmt.Sprintf("P7.1: most %d", most)
		x := New[int](most)
		wantTick(t, what+": nobody", x)
		x.Heard(2)
		x.Heard(1)
		wantTick(t, what, x, 1, 2)
		x.Heard(3)
		x.Heard(1)
		wantTick(t, what, x, 1, 2, 3)
		x.Gone(2)
		wantTick(t, what, x, 1, 3)
		wantNobody(t, what, x, 2)
		wantAge(t, what, x, 1, 2)
		wantAge(t, what, x, 3, 2)
	}
}

func TestGreatMost(t *testing.T) {
	for _, most := range []int{1000, math.MaxInt32, 1 << 32, 1 << 40, math.MaxInt - 1, math.MaxInt} {
		what := fmt.Sprintf("P7.1: most %d", most)
		x := New[int](most)
		x.Heard(1)
		for range 999 {
			wantTick(t, what, x)
		}
		wantAge(t, what, x, 1, 999)
		if most == 1000 {
			wantTick(t, what, x, 1)
		} else {
			wantTick(t, what, x)
		}
	}
}

// holdsTypes lets two of one type speak, the lesser one and the greater one, the greater one first.
func holdsTypes[K cmp.Ordered](t *testing.T, less, more K) {
	t.Helper()
	what := fmt.Sprintf("P7.1: %T", less)
	x := New[K](2)
	wantHeard(t, what, x, more, true)
	wantNobody(t, what, x, less)
	wantHeard(t, what, x, less, true)
	wantHeard(t, what, x, more, false)
	wantAll(t, what, x, less, more)
	wantTick(t, what, x)
	wantHeard(t, what, x, less, false)
	wantTick(t, what, x, more)
	wantAge(t, what, x, more, 2)
	wantAge(t, what, x, less, 1)
	wantTick(t, what, x, less, more)
	wantGone(t, what, x, less, true)
	wantTick(t, what, x, more)
	wantGone(t, what, x, more, true)
	wantGone(t, what, x, more, false)
	wantTick(t, what, x)
	wantAll(t, what, x)
}

func TestTypes(t *testing.T) {
	type name string
	type number int32
	holdsTypes(t, math.MinInt, math.MaxInt)
	holdsTypes(t, int8(-128), 127)
	holdsTypes(t, int16(-1), 0)
	holdsTypes(t, number(-9), 9)
	holdsTypes(t, int64(math.MinInt64), 0)
	holdsTypes(t, uint(0), math.MaxUint)
	holdsTypes(t, byte(0), 255)
	holdsTypes(t, uint16(9), 10)
	holdsTypes(t, uint32(1<<31), 1<<32-1)
	holdsTypes(t, uint64(1<<63-1), 1<<63)
	holdsTypes(t, uintptr(0), 1)
	holdsTypes(t, float32(-0.5), 0.5)
	holdsTypes(t, math.Inf(-1), math.Inf(1))
	holdsTypes(t, -math.MaxFloat64, math.SmallestNonzeroFloat64)
	holdsTypes(t, "", "\x00")
	holdsTypes(t, "10", "9")
	holdsTypes(t, "Z", "a")
	holdsTypes(t, "a\xff", "\xff")
	holdsTypes(t, name("b"), "ba")
	holdsTypes(t, strings.Repeat("x", 100000), strings.Repeat("x", 100001))
}

// A float that is no number is one like any other: it is found again, and stands ahead of all numbers.
func TestNoNumber(t *testing.T) {
	x, nan := New[float64](2), math.NaN()
	wantNobody(t, "P7.1: no number", x, nan)
	wantHeard(t, "P7.1: no number", x, 1, true)
	wantHeard(t, "P7.1: no number", x, nan, true)
	wantHeard(t, "P7.1: no number", x, math.Inf(-1), true)
	wantHeard(t, "P7.1: no number again", x, nan, false)
	for range 2 {
		x.Tick()
	}
	wantAge(t, "P7.1: no number", x, nan, 2)
	if got := fmt.Sprint(x.Tick(), x.All()); got != "[NaN -Inf 1] [NaN -Inf 1]" {
		t.Error("P7.1: no number:", got)
	}
	wantGone(t, "P7.1: no number", x, nan, true)
	wantGone(t, "P7.1: no number", x, nan, false)
	wantAll(t, "P7.1: no number", x, math.Inf(-1), 1)
}

// The two noughts of a float are one.
func TestNoughts(t *testing.T) {
	x, below := New[float64](1), math.Copysign(0, -1)
	wantHeard(t, "P7.1: noughts", x, 0, true)
	wantHeard(t, "P7.1: noughts", x, below, false)
	wantAll(t, "P7.1: noughts", x, 0)
	wantTick(t, "P7.1: noughts", x, 0)
	wantGone(t, "P7.1: noughts", x, below, true)
	wantAll(t, "P7.1: noughts", x)
}

// spoil turns an answer and writes into all of it, its spare room too.
func spoil(list []int) {
	slices.Reverse(list)
	for k := range list[:cap(list)] {
		list[:cap(list)][k] = 99
	}
}

// What All and Tick answered is the caller's: elements and spare room.
func TestAnswersAreNew(t *testing.T) {
	x := New[int](1)
	for k := range 5 {
		x.Heard(k)
	}
	answers := [][]int{x.All(), x.Tick(), x.All(), x.Tick(), x.Tick()}
	for k, one := range answers {
		if !slices.Equal(one, []int{0, 1, 2, 3, 4}) {
			t.Errorf("P0.3: behind %d turned answers another is %v", k, one)
		}
		spoil(one)
	}
	wantAll(t, "P0.3: behind turned answers", x, 0, 1, 2, 3, 4)
	wantTick(t, "P0.3: behind turned answers", x, 0, 1, 2, 3, 4)
	wantAge(t, "P0.3: behind turned answers", x, 2, 4)
	all, silent := x.All(), x.Tick()
	x.Gone(1)
	x.Heard(-1)
	x.Heard(9)
	x.Tick()
	if want := []int{0, 1, 2, 3, 4}; !slices.Equal(all, want) || !slices.Equal(silent, want) {
		t.Errorf("P0.3: later words changed answers: %v, %v", all, silent)
	}
	spoil(all)
	spoil(silent)
	wantAll(t, "P0.3: behind later words", x, -1, 0, 2, 3, 4, 9)
	wantTick(t, "P0.3: behind later words", x, -1, 0, 2, 3, 4, 9)
}

func TestTimersShareNothing(t *testing.T) {
	a, b := New[int](1), New[int](2)
	a.Heard(1)
	b.Heard(2)
	wantTick(t, "P7.1: the one", a, 1)
	wantNobody(t, "P7.1: the one", a, 2)
	wantNobody(t, "P7.1: the other", b, 1)
	wantAge(t, "P7.1: the one's tick", b, 2, 0)
	wantTick(t, "P7.1: the other", b)
	a.Heard(2)
	wantTick(t, "P7.1: the one's word", b, 2)
	a.Gone(2)
	wantAll(t, "P7.1: the one's Gone", b, 2)
	wantAll(t, "P7.1: the one", a, 1)
}

// Asking changes nothing.
func TestAskedTwice(t *testing.T) {
	x := New[int](2)
	x.Heard(2)
	x.Tick()
	x.Heard(1)
	for range 5 {
		wantAll(t, "P0.5", x, 1, 2)
		wantAge(t, "P0.5", x, 2, 1)
		wantAge(t, "P0.5", x, 1, 0)
		wantNobody(t, "P0.5", x, 3)
	}
	wantTick(t, "P0.5", x, 2)
}

func ofNone[K cmp.Ordered](t *testing.T, ks ...K) {
	t.Helper()
	what := fmt.Sprintf("P7.1: a nil *Timer of %T", ks)
	var x *Timer[K]
	for _, k := range ks {
		if x.Heard(k) || x.Gone(k) || x.Has(k) || x.Heard(k) {
			t.Errorf("%s: true of %v", what, k)
		}
		wantNobody(t, what, x, k)
		if x.Tick() != nil || x.All() != nil {
			t.Errorf("%s: Tick or All isn't none", what)
		}
		wantNobody(t, what, x, k)
	}
}

func TestNilTimer(t *testing.T) {
	ofNone(t, 0, 1, -1, math.MaxInt, math.MinInt)
	ofNone(t, "", "a")
	ofNone(t, 0.5, math.NaN(), math.Inf(1))
	ofNone(t, byte(0), 255)
}

// A Timer that New did not make is one of most 0: no call of it panics.
func TestTimerNotByNew(t *testing.T) {
	var x Timer[string]
	wantTick(t, "P0.1: a Timer that New did not make", &x)
	wantGone(t, "P0.1: a Timer that New did not make", &x, "a", false)
	wantHeard(t, "P0.1: a Timer that New did not make", &x, "a", true)
	wantTick(t, "P0.1: a Timer that New did not make", &x, "a")
	wantGone(t, "P0.1: a Timer that New did not make", &x, "a", true)
	wantAll(t, "P0.1: a Timer that New did not make", &x)
}

// dice throws numbers.
type dice uint64

func (d *dice) of(k int) int {
	*d = *d*6364136223846793005 + 1442695040888963407
	return int(uint64(*d)>>33) % k
}

// plain is a timer that keeps an age for each, and counts each on.
type plain struct {
	most int
	ages map[int]int
}

func (p plain) all() []int { return slices.Sorted(maps.Keys(p.ages)) }

func (p plain) tick() []int {
	var silent []int
	for _, k := range p.all() {
		p.ages[k]++
		if p.ages[k] >= p.most {
			silent = append(silent, k)
		}
	}
	return silent
}

// Steps of all kinds, held against a plainer timer behind each.
func TestAgainstPlain(t *testing.T) {
	d := dice(7)
	for run := range 200 {
		p := plain{run%9 - 1, map[int]int{}}
		x := New[int](p.most)
		many := run%23 + 1
		for step := range 150 {
			what := fmt.Sprintf("P7.1: run %d, step %d", run, step)
			k := d.of(many) - many/2
			_, is := p.ages[k]
			switch d.of(7) {
			case 0, 1, 2:
				wantHeard(t, what, x, k, !is)
				p.ages[k] = 0
			case 3:
				wantGone(t, what, x, k, is)
				delete(p.ages, k)
			default:
				wantTick(t, what, x, p.tick()...)
			}
			wantAll(t, what, x, p.all()...)
			for k := -many; k <= many; k++ {
				if age, is := p.ages[k]; is {
					wantAge(t, what, x, k, age)
				} else {
					wantNobody(t, what, x, k)
				}
			}
			if t.Failed() {
				return
			}
		}
	}
}

// Many, who come in no order and go in another.
func TestMany(t *testing.T) {
	const many = 3001
	x := New[int](1)
	var all []int
	for k := range many {
		wantHeard(t, "P7.1: many", x, k*1009%many, true)
		all = append(all, k)
	}
	wantTick(t, "P7.1: many", x, all...)
	for k := range many - 1 {
		wantGone(t, "P7.1: many go", x, k*2003%many, true)
	}
	wantTick(t, "P7.1: one is left", x, (many-1)*2003%many)
}
