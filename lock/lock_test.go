package lock

import (
	"fmt"
	"math"
	"slices"
	"strings"
	"testing"

	"postillion/api"
)

// put is a Put of that body.
func put(body string) api.Put { return api.Put{Queue: "letters", Body: body} }

// row is what a transaction ought to have: so many operations, and Puts of these bodies.
type row struct {
	tid    int64
	n      int
	bodies []string
}

// does is a row of its operations, in order: "-" takes, all else is a body that is put.
func does(tid int64, ops ...string) row {
	r := row{tid: tid, n: len(ops)}
	for _, op := range ops {
		if op != "-" {
			r.bodies = append(r.bodies, op)
		}
	}
	return r
}

func (r row) puts() []api.Put {
	var puts []api.Put
	for _, body := range r.bodies {
		puts = append(puts, put(body))
	}
	return puts
}

// wantRows holds all that is to be seen against the rows, which rise; nobody beside them is one.
func wantRows(t *testing.T, what string, l *Locks, rows ...row) {
	t.Helper()
	var tids []int64
	var all []api.Put
	for _, r := range rows {
		tids = append(tids, r.tid)
		all = append(all, r.puts()...)
		if got := l.N(r.tid); got != r.n {
			t.Errorf("%s: N(%d) %d, want %d", what, r.tid, got, r.n)
		}
		if got := l.Puts(r.tid); !slices.Equal(got, r.puts()) {
			t.Errorf("%s: Puts(%d) %v, want %v", what, r.tid, got, r.puts())
		}
	}
	if got := l.Tids(); !slices.Equal(got, tids) {
		t.Errorf("%s: Tids %v, want %v", what, got, tids)
	}
	if got := l.All(); !slices.Equal(got, all) {
		t.Errorf("%s: All %v, want %v", what, got, all)
	}
	for _, tid := range []int64{math.MinInt64, -77, -1, 0, 1, 77, math.MaxInt64} {
		if !slices.Contains(tids, tid) {
			wantNone(t, what, l, tid)
		}
	}
}

// wantNone holds that tid is none, without a word to it.
func wantNone(t *testing.T, what string, l *Locks, tid int64) {
	t.Helper()
	if l.N(tid) != 0 || len(l.Puts(tid)) != 0 || slices.Contains(l.Tids(), tid) {
		t.Errorf("%s: %d is none, but N %d, Puts %v, Tids %v", what, tid, l.N(tid), l.Puts(tid), l.Tids())
	}
}

// mustDo lets tid do these operations, as does tells of them; each must be taken.
func mustDo(t *testing.T, l *Locks, tid int64, ops ...string) {
	t.Helper()
	for k, op := range ops {
		if op == "-" && !l.Took(tid) || op != "-" && !l.Put(tid, put(op)) {
			t.Fatalf("P13.1: the operation %q, number %d of %d, is refused", op, k+1, tid)
		}
	}
}

func wantTouch(t *testing.T, what string, l *Locks, tid int64, is bool) {
	t.Helper()
	if got := l.Touch(tid); got != is {
		t.Errorf("%s: Touch(%d) %v, want %v", what, tid, got, is)
	}
}

func wantDrop(t *testing.T, what string, l *Locks, tid int64, was bool) {
	t.Helper()
	if got := l.Drop(tid); got != was {
		t.Errorf("%s: Drop(%d) %v, want %v", what, tid, got, was)
	}
	wantNone(t, what+", Drop", l, tid)
}

// wantTick ticks, and holds who is told against who ought to be, rising.
func wantTick(t *testing.T, what string, l *Locks, silent ...int64) {
	t.Helper()
	if got := l.Tick(); !slices.Equal(got, silent) {
		t.Errorf("%s: Tick %v, want %v", what, got, silent)
	}
}

func TestNew(t *testing.T) {
	l := New()
	if l == nil {
		t.Fatal("P13.1: New is nil")
	}
	wantRows(t, "P13.1: New", l)
	for range 10 {
		wantTick(t, "P13.1: New", l)
	}
	wantTouch(t, "P13.1: New", l, 0, false)
	wantDrop(t, "P13.1: New", l, 0, false)
	wantRows(t, "P13.1: New", l)
}

func TestPut(t *testing.T) {
	l := New()
	mustDo(t, l, 7, "a")
	wantRows(t, "P13.1: it begins with its first Put", l, does(7, "a"))
	mustDo(t, l, 7, "b")
	wantRows(t, "P13.1: one Put more", l, does(7, "a", "b"))
	mustDo(t, l, 7, "a")
	wantRows(t, "P13.1: the same once more", l, does(7, "a", "b", "a"))
	mustDo(t, l, 4, "c")
	wantRows(t, "P13.1: another's", l, does(4, "c"), does(7, "a", "b", "a"))
}

func TestTook(t *testing.T) {
	l := New()
	mustDo(t, l, 7, "-")
	wantRows(t, "P13.1: it begins with its first Took", l, does(7, "-"))
	mustDo(t, l, 7, "-")
	wantRows(t, "P13.1: one Took more", l, does(7, "-", "-"))
	mustDo(t, l, 4, "-")
	wantRows(t, "P13.1: another's", l, does(4, "-"), does(7, "-", "-"))
}

func TestMixed(t *testing.T) {
	for _, ops := range [][]string{
		{"a", "-"},
		{"-", "a"},
		{"-", "a", "-", "b", "-"},
		{"a", "b", "-", "-", "c", "a"},
		{"-", "-", "-", "z", "y", "x"},
	} {
		l := New()
		for k := range ops {
			mustDo(t, l, 7, ops[k])
			wantRows(t, fmt.Sprintf("P13.1: %q", ops[:k+1]), l, does(7, ops[:k+1]...))
		}
	}
}

// What a Put has is kept as it is: whether it may be is no question here.
func TestAnyPut(t *testing.T) {
	for _, p := range []api.Put{
		{}, {Queue: "letters"}, {Body: "a"}, {Queue: "Not A Name!", Body: "\x00\xff"},
		{Queue: strings.Repeat("q", 70_000), Body: strings.Repeat("b", 70_000)},
	} {
		l := New()
		if !l.Put(7, p) || !l.Put(7, put("b")) || l.N(7) != 2 {
			t.Errorf("P13.1: Put(%.40q): N %d", p, l.N(7))
		}
		want := []api.Put{p, put("b")}
		if !slices.Equal(l.Puts(7), want) || !slices.Equal(l.All(), want) {
			t.Errorf("P13.1: Put(%.40q): Puts %.80q, All %.80q", p, l.Puts(7), l.All())
		}
	}
}

// However Puts and Tooks make ten, the tenth is taken, and what comes behind it is refused and changes nothing.
func TestTenAreAll(t *testing.T) {
	for puts := range api.MaxOps + 1 {
		for _, putsFirst := range []bool{true, false} {
			what := fmt.Sprintf("P13.1: %d Puts of ten, first %v", puts, putsFirst)
			var ops []string
			for k := range api.MaxOps {
				if putsFirst && k < puts || !putsFirst && k >= api.MaxOps-puts {
					ops = append(ops, string(rune('a'+k)))
				} else {
					ops = append(ops, "-")
				}
			}
			l := New()
			mustDo(t, l, 7, "-", "own")
			mustDo(t, l, 8, ops[:9]...)
			wantRows(t, what+": nine", l, does(7, "-", "own"), does(8, ops[:9]...))
			mustDo(t, l, 8, ops[9])
			whole := []row{does(7, "-", "own"), does(8, ops...)}
			wantRows(t, what+": ten", l, whole...)
			for range 3 {
				if l.Put(8, put("more")) {
					t.Error(what, "and a Put more is taken")
				}
				wantRows(t, what+", and a Put", l, whole...)
				if l.Took(8) {
					t.Error(what, "and a Took more is taken")
				}
				wantRows(t, what+", and a Took", l, whole...)
			}
			mustDo(t, l, 7, "b")
			mustDo(t, l, 9, "-", "c")
			wantRows(t, what+": others go on", l, does(7, "-", "own", "b"), whole[1], does(9, "-", "c"))
			wantDrop(t, what, l, 8, true)
			mustDo(t, l, 8, ops...)
			wantRows(t, what+": dropped, and ten anew", l, does(7, "-", "own", "b"), whole[1], does(9, "-", "c"))
		}
	}
}

// All goes by rising tid, each one's in its own order, whichever way they came.
func TestAll(t *testing.T) {
	l := New()
	mustDo(t, l, 9, "z", "a")
	mustDo(t, l, 5, "-")
	mustDo(t, l, 2, "m")
	mustDo(t, l, 9, "-", "b")
	mustDo(t, l, 7, "y", "c")
	mustDo(t, l, 2, "-", "a", "z")
	wantRows(t, "P13.1: All", l, does(2, "m", "-", "a", "z"), does(5, "-"), does(7, "y", "c"), does(9, "z", "a", "-", "b"))
	l.Drop(7)
	wantRows(t, "P13.1: All, one dropped", l, does(2, "m", "-", "a", "z"), does(5, "-"), does(9, "z", "a", "-", "b"))
}

// orders is all the ways in which so many can come.
func orders(n int) [][]int {
	if n == 0 {
		return [][]int{nil}
	}
	var all [][]int
	for _, o := range orders(n - 1) {
		for k := range n {
			all = append(all, slices.Insert(slices.Clone(o), k, n-1))
		}
	}
	return all
}

// Each third one has Tooks alone.
func TestRisingWhicheverWayTheyCame(t *testing.T) {
	for _, o := range orders(5) {
		what := fmt.Sprintf("P13.1: they came as %v", o)
		l := New()
		rows := make([]row, 5)
		for _, k := range o {
			ops := []string{"-", fmt.Sprint(k), "a"}
			if k%3 == 0 {
				ops = []string{"-", "-"}
			}
			rows[k] = does(int64(k*10-20), ops...)
			mustDo(t, l, rows[k].tid, ops...)
		}
		wantRows(t, what, l, rows...)
		wantDrop(t, what, l, rows[o[2]].tid, true)
		wantRows(t, what+", one dropped", l, slices.Delete(slices.Clone(rows), o[2], o[2]+1)...)
		if t.Failed() {
			return
		}
	}
}

func TestTouchBeginsNothing(t *testing.T) {
	l := New()
	wantTouch(t, "P13.1: nobody is there", l, 7, false)
	wantTouch(t, "P13.1: nobody is there, again", l, 7, false)
	wantRows(t, "P13.1: behind a Touch of none", l)
	mustDo(t, l, 7, "-", "a")
	wantTouch(t, "P13.1: it is there", l, 7, true)
	wantTouch(t, "P13.1: it is there, again", l, 7, true)
	wantTouch(t, "P13.1: another is there", l, 6, false)
	wantTouch(t, "P13.1: another is there", l, 8, false)
	wantRows(t, "P13.1: a Touch is no operation", l, does(7, "-", "a"))
	for range 2 * api.Lease {
		l.Tick()
		wantTouch(t, "P13.1: it was none all the time", l, 6, false)
	}
	wantTick(t, "P13.1: who was touched, but none, is not told", l, 7)
	wantDrop(t, "P13.1", l, 7, true)
	wantTouch(t, "P13.1: it was dropped", l, 7, false)
	wantRows(t, "P13.1: it was dropped, and touched", l)
}

func TestDrop(t *testing.T) {
	l := New()
	wantDrop(t, "P13.1: nobody is there", l, 7, false)
	mustDo(t, l, 7, "a", "-")
	mustDo(t, l, 5, "-")
	wantDrop(t, "P13.1: it is none", l, 6, false)
	wantRows(t, "P13.1: none was dropped", l, does(5, "-"), does(7, "a", "-"))
	wantDrop(t, "P13.1: it is one", l, 7, true)
	wantRows(t, "P13.1: it was dropped", l, does(5, "-"))
	wantDrop(t, "P13.1: twice", l, 7, false)
	wantRows(t, "P13.1: it was dropped twice", l, does(5, "-"))
	mustDo(t, l, 7, "b")
	wantRows(t, "P13.1: it begins anew", l, does(5, "-"), does(7, "b"))
	wantDrop(t, "P13.1: with Tooks alone", l, 5, true)
	mustDo(t, l, 5, "-", "c")
	wantRows(t, "P13.1: it begins anew", l, does(5, "-", "c"), does(7, "b"))
	wantDrop(t, "P13.1", l, 5, true)
	wantDrop(t, "P13.1", l, 7, true)
	wantRows(t, "P13.1: all were dropped", l)
	wantDrop(t, "P13.1: all were dropped", l, 7, false)
}

// Who is dropped takes nobody along, wherever it stood.
func TestDropFromEachPlace(t *testing.T) {
	rows := []row{does(-5, "a"), does(0, "-", "b", "c"), does(3, "-"), does(4, "d", "-"), does(90, "e")}
	for place, r := range rows {
		what := fmt.Sprintf("P13.1: without %d", r.tid)
		l := New()
		mustDo(t, l, 3, "-")
		mustDo(t, l, 90, "e")
		mustDo(t, l, 0, "-", "b", "c")
		mustDo(t, l, -5, "a")
		mustDo(t, l, 4, "d", "-")
		wantDrop(t, what, l, r.tid, true)
		wantRows(t, what, l, slices.Delete(slices.Clone(rows), place, place+1)...)
	}
}

func TestAnyTid(t *testing.T) {
	tids := []int64{math.MinInt64, math.MinInt64 + 1, -api.Base, -2, -1, 0, 1, 2, api.Base, api.MaxNum, math.MaxInt64 - 1, math.MaxInt64}
	for _, tid := range tids {
		what := fmt.Sprintf("P13.1: the tid %d", tid)
		l := New()
		wantTouch(t, what, l, tid, false)
		wantDrop(t, what, l, tid, false)
		mustDo(t, l, tid, "a", "-")
		wantRows(t, what, l, does(tid, "a", "-"))
		for range api.Lease - 1 {
			wantTick(t, what, l)
		}
		wantTouch(t, what, l, tid, true)
		for range api.Lease - 1 {
			wantTick(t, what, l)
		}
		wantTick(t, what, l, tid)
		mustDo(t, l, tid, "b", "-", "-", "-", "-", "-", "-", "c")
		if l.Put(tid, put("d")) || l.Took(tid) {
			t.Error(what, "has an eleventh operation")
		}
		wantRows(t, what, l, does(tid, "a", "-", "b", "-", "-", "-", "-", "-", "-", "c"))
		wantDrop(t, what, l, tid, true)
		wantDrop(t, what, l, tid, false)
		wantTouch(t, what, l, tid, false)
		wantRows(t, what, l)
	}
	l := New()
	var rows []row
	for k := range tids {
		mustDo(t, l, tids[len(tids)-1-k], fmt.Sprint(len(tids)-1-k))
		rows = append(rows, does(tids[k], fmt.Sprint(k)))
	}
	wantRows(t, "P13.1: all of them", l, rows...)
	for range api.Lease - 1 {
		wantTick(t, "P13.1: all of them", l)
	}
	wantTick(t, "P13.1: all of them", l, tids...)
}

// One begins without the other, and ends without it.
func TestLocksShareNothing(t *testing.T) {
	a, b := New(), New()
	mustDo(t, a, 7, "a")
	wantRows(t, "P13.1: the one", a, does(7, "a"))
	wantRows(t, "P13.1: the other", b)
	wantTouch(t, "P13.1: the other", b, 7, false)
	wantDrop(t, "P13.1: the other", b, 7, false)
	mustDo(t, b, 7, "-", "b")
	mustDo(t, b, 3, "c")
	wantRows(t, "P13.1: the one", a, does(7, "a"))
	for range api.Lease - 1 {
		wantTick(t, "P13.1: the one's ticks", a)
	}
	wantTick(t, "P13.1: the other's first", b)
	wantTick(t, "P13.1: the one's sixth", a, 7)
	wantTouch(t, "P13.1: the other", b, 7, true)
	wantTick(t, "P13.1: the other was touched", a, 7)
	wantDrop(t, "P13.1: the one", a, 7, true)
	wantRows(t, "P13.1: the one", a)
	wantRows(t, "P13.1: the other", b, does(3, "c"), does(7, "-", "b"))
}

// wantNothing holds that it is told nothing of, whatever it is asked.
func wantNothing(t *testing.T, what string, l *Locks) {
	t.Helper()
	for _, tid := range []int64{math.MinInt64, -1, 0, 1, 7, math.MaxInt64} {
		if l.Put(tid, put("a")) || l.Took(tid) || l.Touch(tid) || l.Drop(tid) {
			t.Errorf("%s: true of %d", what, tid)
		}
		for range 2 * api.Lease {
			if l.Tick() != nil {
				t.Errorf("%s: Tick tells of somebody", what)
			}
		}
		if l.N(tid) != 0 || l.Puts(tid) != nil || l.All() != nil || len(l.Tids()) != 0 {
			t.Errorf("%s: N %d, Puts %v, All %v, Tids %v", what, l.N(tid), l.Puts(tid), l.All(), l.Tids())
		}
	}
}

func TestNilLocks(t *testing.T) {
	var l *Locks
	wantNothing(t, "P13.1: a nil *Locks", l)
	if l.Tids() != nil {
		t.Error("P13.1: a nil *Locks: Tids isn't nil")
	}
}

// A Locks that New did not make takes nothing, and no call of it panics.
func TestLocksNotByNew(t *testing.T) {
	wantNothing(t, "P0.1: a Locks that New did not make", &Locks{})
}
