package store

import (
	"fmt"
	"math"
	"reflect"
	"slices"
	"strings"
	"testing"

	"postillion/api"
)

const base = int64(1) << 32

// id is the n-th id of that broker.
func id(broker int, n int64) int64 { return int64(broker)*base + n }

// put is a Put of that queue and body.
func put(queue, body string) api.Put { return api.Put{Queue: queue, Body: body} }

// tenPuts are as many as one transaction puts at a broker.
func tenPuts() []api.Put {
	var puts []api.Put
	for k := range 10 {
		puts = append(puts, put("letters", strings.Repeat("x", k*6)))
	}
	return puts
}

// others are all brokers but that one.
func others(broker int) []int {
	var l []int
	for b := 1; b <= 8; b++ {
		if b != broker {
			l = append(l, b)
		}
	}
	return l
}

// Of broker 3, in whole: transactions that have taken something, in each way that one can stand there.
var (
	yours  = id(5, 9)       // prepared, took two messages, puts two
	theirs = id(8, 1)       // only took
	mine   = id(3, 4)       // in Open, took one message
	last   = id(8, 1<<32-1) // prepared, took nothing, puts ten
	well   = id(1, 2)       // ended well
	ill    = id(7, 7)       // ended not well
	toTell = id(3, 1)       // the same, and is in Noes
	idle   = id(3, 11)      // the broker's own, of which nothing is known
	far    = id(2, 1)       // another broker's, of which nothing is known
	allOf  = []int64{yours, theirs, mine, last, well, ill, toTell, idle, far}
	some   = strings.Repeat("\xff", 60)
	noTids = []int64{math.MinInt64, -base - 1, -base, -1, 1, base - 1, base, 3 * base, 8 * base, 9 * base, 9*base + 1, math.MaxInt64}
)

// whole is a state that has something of all.
func whole() api.State {
	return api.State{
		Broker:  3,
		NextId:  20,
		NextSeq: 40,
		Tx:      12,
		Ms: []api.Message{
			{Id: id(3, 7), Queue: "letters", Body: "dear", Seq: 5, Count: 2, By: yours},
			{Id: id(3, 2), Queue: "a", Seq: 6},
			{Id: id(3, 18), Queue: "letters", Body: "", Seq: 7, Count: 3, By: mine},
			{Id: id(3, 17), Queue: "a", Body: "a", Seq: 8, Count: 999, By: theirs},
			{Id: id(3, 16), Queue: "a", Body: "b", Seq: 30, Count: 1000, By: theirs},
			{Id: id(3, 1), Queue: "a", Body: "c", Seq: 31, By: yours},
			{Id: id(3, 19), Queue: "zzzzzzzz", Body: some, Seq: 38, Count: 7},
		},
		Waits: []api.Branch{
			{Tid: id(1, 1)},
			{Tid: yours, Puts: []api.Put{put("b", "new"), put("letters", "")}},
			{Tid: last, Puts: tenPuts()},
		},
		Ends: []api.End{{Tid: well, Yes: true}, {Tid: toTell}, {Tid: id(3, 3), Yes: true}, {Tid: id(3, 5)}, {Tid: ill}},
		Open: []api.Pend{{Tid: mine, Parts: []int{1, 2}}, {Tid: id(3, 6), Parts: []int{8}}},
		Noes: []api.Pend{{Tid: toTell, Parts: others(3)}, {Tid: id(3, 5), Parts: []int{2}}},
	}
}

// copied is s, wholly apart, with nil for each empty list.
func copied(s api.State) api.State {
	s.Ms = append([]api.Message(nil), s.Ms...)
	s.Waits = append([]api.Branch(nil), s.Waits...)
	for k := range s.Waits {
		s.Waits[k].Puts = append([]api.Put(nil), s.Waits[k].Puts...)
	}
	s.Ends = append([]api.End(nil), s.Ends...)
	s.Open = append([]api.Pend(nil), s.Open...)
	for k := range s.Open {
		s.Open[k].Parts = append([]int(nil), s.Open[k].Parts...)
	}
	s.Noes = append([]api.Pend(nil), s.Noes...)
	for k := range s.Noes {
		s.Noes[k].Parts = append([]int(nil), s.Noes[k].Parts...)
	}
	return s
}

// same compares by another way than Eq.
func same(a, b api.State) bool {
	ok := a.Broker == b.Broker && a.NextId == b.NextId && a.NextSeq == b.NextSeq && a.Tx == b.Tx
	ok = ok && slices.Equal(a.Ms, b.Ms) && len(a.Waits) == len(b.Waits) && slices.Equal(a.Ends, b.Ends)
	if !ok || len(a.Open) != len(b.Open) || len(a.Noes) != len(b.Noes) {
		return false
	}
	for k, w := range a.Waits {
		ok = ok && w.Tid == b.Waits[k].Tid && slices.Equal(w.Puts, b.Waits[k].Puts)
	}
	for k, p := range a.Open {
		ok = ok && p.Tid == b.Open[k].Tid && slices.Equal(p.Parts, b.Open[k].Parts)
	}
	for k, p := range a.Noes {
		ok = ok && p.Tid == b.Noes[k].Tid && slices.Equal(p.Parts, b.Noes[k].Parts)
	}
	return ok
}

// tell is s, or so much of it as can be read.
func tell(s api.State) string {
	out := fmt.Sprintf("%+v", s)
	if len(out) > 900 {
		out = out[:900] + " .."
	}
	return out
}

func tellRecord(r api.Record) string { return fmt.Sprintf("%+v", r) }

// zero is the state that has nothing.
var zero api.State

func TestNew(t *testing.T) {
	for b := 1; b <= 8; b++ {
		want := api.State{Broker: b, NextId: 1, NextSeq: 1}
		if s := New(b); !reflect.DeepEqual(copied(s), want) || !May(s) {
			t.Errorf("P10.1: New of %d: %s", b, tell(s))
		}
		if !Eq(New(b), want) || Eq(New(b), New(b%8+1)) {
			t.Errorf("P10.1: New of %d is not what it should be Eq to", b)
		}
	}
	for _, b := range []int{math.MinInt, -1 << 32, -1, 0, 9, 10, 256 + 1, 65536 + 1, 1<<32 + 1, math.MaxInt} {
		if s := New(b); !reflect.DeepEqual(copied(s), zero) || May(s) {
			t.Errorf("P10.1: New of %d, which is no broker: %s", b, tell(s))
		}
	}
}

// Whoever writes into one new state changes no other one.
func TestNewIsNew(t *testing.T) {
	s := New(2)
	s.NextId, s.Ends, s.Ms = 9, append(s.Ends, api.End{Tid: 1}), append(s.Ms, api.Message{Id: 1})
	if !same(New(2), api.State{Broker: 2, NextId: 1, NextSeq: 1}) {
		t.Errorf("P0.5: New of 2 behind another one that was turned: %s", tell(New(2)))
	}
}
