package lock

import (
	"slices"
	"testing"

	"postillion/api"
)

// fill writes x into all of list and the room behind it.
func fill[T any](list []T, x T) {
	list = list[:cap(list)]
	for k := range list {
		list[k] = x
	}
}

// several is a Locks of four transactions that were silent for five ticks, and what they have.
func several(t *testing.T) (*Locks, []row) {
	t.Helper()
	l := New()
	rows := []row{does(-2, "a", "-", "b"), does(0, "-"), does(5, "c", "d", "e", "f", "g"), does(9, "h")}
	mustDo(t, l, 9, "h")
	mustDo(t, l, -2, "a", "-", "b")
	mustDo(t, l, 5, "c", "d", "e", "f", "g")
	mustDo(t, l, 0, "-")
	for range api.Lease - 1 {
		wantTick(t, "P13.1", l)
	}
	return l, rows
}

// Whoever writes into an answer, its spare room too, changes neither the Locks nor another answer.
func TestAnswersAreTheCallersOwn(t *testing.T) {
	l, rows := several(t)
	wantTick(t, "P13.1", l, -2, 0, 5, 9)
	for range 3 {
		for _, r := range rows {
			puts, other := l.Puts(r.tid), l.Puts(r.tid)
			fill(puts, put("#"))
			if !slices.Equal(other, r.puts()) {
				t.Errorf("P0.3: Puts(%d) was written into, and another is %v", r.tid, other)
			}
			wantRows(t, "P0.3: Puts was written into", l, rows...)
		}
		all, otherAll := l.All(), l.All()
		fill(all, put("#"))
		wantRows(t, "P0.3: All was written into", l, rows...)
		tids, otherTids := l.Tids(), l.Tids()
		fill(tids, 99)
		wantRows(t, "P0.3: Tids was written into", l, rows...)
		told, otherTold := l.Tick(), l.Tick()
		fill(told, 99)
		wantRows(t, "P0.3: Tick was written into", l, rows...)
		wantTick(t, "P0.3: Tick was written into", l, -2, 0, 5, 9)
		want := []int64{-2, 0, 5, 9}
		if len(otherAll) != 8 || slices.Contains(otherAll, put("#")) || !slices.Equal(otherTids, want) || !slices.Equal(otherTold, want) {
			t.Errorf("P0.3: answers were written into, and others are %v, %v, %v", otherAll, otherTids, otherTold)
		}
	}
}

// One row of one answer is turned at a time.
func TestEachRowIsTheCallersOwn(t *testing.T) {
	l, rows := several(t)
	for k := range l.All() {
		l.All()[k] = put("#")
		l.All()[k].Queue = "#"
		wantRows(t, "P0.3: a row of All was turned", l, rows...)
	}
	for _, r := range rows {
		for k := range l.Puts(r.tid) {
			l.Puts(r.tid)[k].Body = "#"
			wantRows(t, "P0.3: a row of Puts was turned", l, rows...)
		}
	}
	for k := range l.Tids() {
		l.Tids()[k] = 99
		l.Tick()[k%len(l.Tick())] = 99
		wantRows(t, "P0.3: a row of Tids and of Tick was turned", l, rows...)
	}
	wantTick(t, "P0.3: rows were turned", l, -2, 0, 5, 9)
}

// What was answered stays, whatever comes later; and what was written into it is never put.
func TestAnswersStay(t *testing.T) {
	l, _ := several(t)
	puts, all, tids, told := l.Puts(5), l.All(), l.Tids(), l.Tick()
	keep := [][]api.Put{slices.Clone(puts), slices.Clone(all)}
	mustDo(t, l, 5, "i", "j", "-")
	mustDo(t, l, 7, "k")
	l.Drop(-2)
	l.Tick()
	if !slices.Equal(puts, keep[0]) || !slices.Equal(all, keep[1]) {
		t.Errorf("P0.3: later operations turned Puts %v, All %v", puts, all)
	}
	if want := []int64{-2, 0, 5, 9}; !slices.Equal(tids, want) || !slices.Equal(told, want) {
		t.Errorf("P0.3: later operations turned Tids %v, Tick %v", tids, told)
	}
	fill(puts, put("#"))
	fill(all, put("#"))
	fill(tids, 99)
	fill(told, 99)
	mustDo(t, l, 5, "m")
	wantRows(t, "P0.3: elder answers were written into", l, does(0, "-"), does(5, "c", "d", "e", "f", "g", "i", "j", "-", "m"), does(7, "k"), does(9, "h"))
}

// A Put that is handed in stays as it is, and what becomes of it later is not seen.
func TestPutsAreTheCallersOwn(t *testing.T) {
	l := New()
	p := put("a")
	for range api.MaxOps + 1 {
		l.Put(7, p)
		if p != put("a") {
			t.Fatalf("P0.3: Put turned what was handed in: %v", p)
		}
	}
	p.Queue, p.Body = "later", "later"
	fill(l.Puts(7), p)
	wantRows(t, "P0.3: a Put that was handed in is turned", l, does(7, "a", "a", "a", "a", "a", "a", "a", "a", "a", "a"))
}

// One who was dropped leaves nothing behind by which one who comes later could write into answers about it.
func TestDroppedAnswersStay(t *testing.T) {
	l := New()
	mustDo(t, l, 7, "a", "b", "c")
	puts := l.Puts(7)
	l.Drop(7)
	mustDo(t, l, 7, "x", "y", "z")
	if !slices.Equal(puts, does(7, "a", "b", "c").puts()) {
		t.Errorf("P0.3: Puts of one who was dropped is %v", puts)
	}
	wantRows(t, "P0.3: it began anew", l, does(7, "x", "y", "z"))
}
