package lock

import (
	"fmt"
	"testing"

	"postillion/api"
)

// words are the ways to hear of a transaction that is there.
func words(l *Locks) map[string]func(tid int64) bool {
	return map[string]func(tid int64) bool{
		"Put":   func(tid int64) bool { return l.Put(tid, put("word")) },
		"Took":  l.Took,
		"Touch": l.Touch,
	}
}

// Silent for 5 ticks it is not told; for 6 and more it is told at every tick, and stays as it was.
func TestLease(t *testing.T) {
	for _, ops := range [][]string{{"a"}, {"-"}, {"a", "-", "b"}} {
		what := fmt.Sprintf("P13.1: %q", ops)
		l := New()
		mustDo(t, l, 7, ops...)
		for tick := 1; tick <= 5; tick++ {
			wantTick(t, fmt.Sprintf("%s, tick %d", what, tick), l)
			wantRows(t, what, l, does(7, ops...))
		}
		for tick := 6; tick <= 20; tick++ {
			wantTick(t, fmt.Sprintf("%s, tick %d", what, tick), l, 7)
			wantRows(t, what+": it stays", l, does(7, ops...))
		}
		mustDo(t, l, 7, "-", "c")
		wantRows(t, what+": and goes on", l, does(7, append(ops, "-", "c")...))
	}
}

// A word at any tick, ahead of the lease's end or behind it, is one from which all six ticks are counted anew.
func TestEachWordIsHeard(t *testing.T) {
	for name := range words(nil) {
		for silent := range 2 * api.Lease {
			what := fmt.Sprintf("P13.1: %s behind %d ticks", name, silent)
			l := New()
			mustDo(t, l, 3, "-")
			mustDo(t, l, 7, "a")
			for range silent {
				l.Tick()
			}
			if !words(l)[name](7) {
				t.Error(what, "is refused")
			}
			for later := 1; later <= 2*api.Lease; later++ {
				var told []int64
				if silent+later >= api.Lease {
					told = append(told, 3)
				}
				if later >= api.Lease {
					told = append(told, 7)
				}
				wantTick(t, fmt.Sprintf("%s and %d more", what, later), l, told...)
			}
		}
	}
}

func TestWhoSpeaksInTimeIsNeverTold(t *testing.T) {
	for name := range words(nil) {
		l := New()
		mustDo(t, l, 7, "a")
		for range 9 {
			for range api.Lease - 1 {
				wantTick(t, "P13.1: "+name+" in time", l)
			}
			if !words(l)[name](7) {
				t.Error("P13.1:", name, "is refused")
			}
		}
		for range api.Lease - 1 {
			wantTick(t, "P13.1: "+name+" in time", l)
		}
		wantTick(t, "P13.1: silent behind "+name, l, 7)
	}
}

func TestTickOfSeveral(t *testing.T) {
	l := New()
	mustDo(t, l, 30, "a")
	mustDo(t, l, -10, "-")
	wantTick(t, "P13.1: 1", l)
	mustDo(t, l, 20, "b")
	wantTick(t, "P13.1: 2", l)
	mustDo(t, l, 0, "-")
	for tick := 3; tick <= 5; tick++ {
		wantTick(t, fmt.Sprint("P13.1: ", tick), l)
	}
	wantTick(t, "P13.1: the first two", l, -10, 30)
	wantTick(t, "P13.1: one more between them", l, -10, 20, 30)
	wantTick(t, "P13.1: all four", l, -10, 0, 20, 30)
	wantTouch(t, "P13.1", l, 30, true)
	mustDo(t, l, 0, "c")
	wantTick(t, "P13.1: two spoke", l, -10, 20)
	wantDrop(t, "P13.1", l, -10, true)
	wantTick(t, "P13.1: one was dropped", l, 20)
	wantRows(t, "P13.1: the others stay", l, does(0, "-", "c"), does(20, "b"), does(30, "a"))
	for range 3 {
		wantTick(t, "P13.1: the two who spoke", l, 20)
	}
	wantTick(t, "P13.1: all are silent again", l, 0, 20, 30)
}

// To ask of one is no word of it.
func TestAskingIsNotHeard(t *testing.T) {
	l := New()
	mustDo(t, l, 7, "a", "-")
	for range api.Lease - 1 {
		wantRows(t, "P13.1: asked", l, does(7, "a", "-"))
		wantDrop(t, "P13.1: of another", l, 8, false)
		wantTouch(t, "P13.1: another", l, 6, false)
		mustDo(t, l, 5, "-")
		wantTick(t, "P13.1: asked", l)
		wantDrop(t, "P13.1: another", l, 5, true)
	}
	wantRows(t, "P13.1: asked", l, does(7, "a", "-"))
	wantTick(t, "P13.1: asked", l, 7)
}

// An operation that is refused does nothing: it is no word either.
func TestRefusedIsNotHeard(t *testing.T) {
	l := New()
	mustDo(t, l, 7, "a", "-", "b", "-", "c", "-", "d", "-", "e", "-")
	for range api.Lease - 1 {
		wantTick(t, "P13.1: ten", l)
		if l.Put(7, put("more")) || l.Took(7) {
			t.Error("P13.1: an eleventh operation is taken")
		}
	}
	wantTick(t, "P13.1: ten, and refused ones", l, 7)
	wantTouch(t, "P13.1: ten", l, 7, true)
	wantTick(t, "P13.1: ten, and a Touch", l)
}

// Who was dropped is not told; who begins anew has the whole lease.
func TestDropForgetsTicks(t *testing.T) {
	for silent := range 2 * api.Lease {
		what := fmt.Sprintf("P13.1: dropped behind %d ticks", silent)
		l := New()
		mustDo(t, l, 7, "a")
		for range silent {
			l.Tick()
		}
		wantDrop(t, what, l, 7, true)
		for range api.Lease {
			wantTick(t, what, l)
		}
		mustDo(t, l, 7, "-")
		for range api.Lease - 1 {
			wantTick(t, what+", anew", l)
		}
		wantTick(t, what+", anew", l, 7)
		wantRows(t, what+", anew", l, does(7, "-"))
	}
}
