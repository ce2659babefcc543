package net

import (
	"fmt"
	"math"
	"slices"
	"testing"

	"postillion/api"
	"postillion/wire"
)

// id is the broker's id of number n, laid out by bits, as the program does not.
func id(broker int, n int64) int64 { return int64(broker)<<32 | n }

// ask is a packet that may be, another one for each n from 1 on.
func ask(n int) api.Packet {
	return api.Packet{Kind: api.PAsk, From: 3, To: 2, Tid: id(2, int64(n))}
}

// asks are the packets ask(1) to ask(many), rising by their bytes.
func asks(many int) []api.Packet {
	var all []api.Packet
	for n := range many {
		all = append(all, ask(n+1))
	}
	return sorted(all)
}

// sorted is those packets by their bytes as wire writes them.
func sorted(all []api.Packet) []api.Packet {
	return slices.SortedFunc(slices.Values(all), func(p, q api.Packet) int {
		return slices.Compare(wire.Encode(p), wire.Encode(q))
	})
}

// book is packets that rise by their bytes, laid in order by hand. A Tid is written lowest byte first: so its broker counts last.
func book() []api.Packet {
	return []api.Packet{
		{Kind: api.PPrep, From: 1, To: 2, Tid: id(1, 0x01000000), N: 10},
		{Kind: api.PPrep, From: 1, To: 2, Tid: id(8, 0x01000000), N: 1},
		{Kind: api.PPrep, From: 1, To: 2, Tid: id(5, 0x80000000), N: 1},
		{Kind: api.PPrep, From: 1, To: 2, Tid: id(1, 0x00010000), N: 1},
		{Kind: api.PPrep, From: 1, To: 2, Tid: id(7, 0x00000100), N: 1},
		{Kind: api.PPrep, From: 1, To: 2, Tid: id(2, 0x0000ff00), N: 1},
		{Kind: api.PPrep, From: 1, To: 2, Tid: id(1, 0xffffff00), N: 1},
		{Kind: api.PPrep, From: 1, To: 2, Tid: id(1, 1), N: 1},
		{Kind: api.PPrep, From: 1, To: 2, Tid: id(1, 1), N: 2},
		{Kind: api.PPrep, From: 1, To: 2, Tid: id(1, 1), N: 10},
		{Kind: api.PPrep, From: 1, To: 2, Tid: id(8, 1), N: 1},
		{Kind: api.PPrep, From: 1, To: 2, Tid: id(1, 0x00000101), N: 1},
		{Kind: api.PPrep, From: 1, To: 2, Tid: id(1, 0xff000002), N: 1},
		{Kind: api.PPrep, From: 1, To: 2, Tid: id(1, 0x0000007f), N: 1},
		{Kind: api.PPrep, From: 1, To: 2, Tid: id(1, 0x00000080), N: 1},
		{Kind: api.PPrep, From: 1, To: 2, Tid: id(1, 0x000000ff), N: 1},
		{Kind: api.PPrep, From: 1, To: 8, Tid: id(1, 1), N: 1},
		{Kind: api.PPrep, From: 2, To: 1, Tid: id(1, 1), N: 1},
		{Kind: api.PPrep, From: 8, To: 8, Tid: id(8, 0xffffffff), N: 10},
		{Kind: api.PVote, From: 1, To: 1, Tid: id(1, 0x00000100)},
		{Kind: api.PVote, From: 1, To: 1, Tid: id(1, 1)},
		{Kind: api.PVote, From: 1, To: 1, Tid: id(1, 1), Yes: true},
		{Kind: api.PVote, From: 1, To: 1, Tid: id(2, 1)},
		{Kind: api.PSay, From: 1, To: 1, Tid: id(1, 1), Yes: true},
		{Kind: api.PSay, From: 1, To: 2, Tid: id(1, 1)},
		{Kind: api.PTold, From: 1, To: 1, Tid: id(1, 1)},
		{Kind: api.PAsk, From: 1, To: 1, Tid: id(1, 1)},
		{Kind: api.PAsk, From: 8, To: 8, Tid: id(8, 0xffffffff)},
	}
}

// mayNot are packets that may not be.
func mayNot() []api.Packet {
	all := []api.Packet{{}}
	for _, kind := range []int{0, 6, 7, -1, 256, 1<<16 + api.PAsk, math.MinInt, math.MaxInt} {
		all = append(all, api.Packet{Kind: kind, From: 1, To: 2, Tid: id(1, 1)})
	}
	for _, broker := range []int{0, 9, -1, 1<<16 + 1, math.MinInt, math.MaxInt} {
		all = append(all, api.Packet{Kind: api.PAsk, From: broker, To: 2, Tid: id(1, 1)})
		all = append(all, api.Packet{Kind: api.PAsk, From: 1, To: broker, Tid: id(1, 1)})
	}
	for _, tid := range []int64{0, 1, -1, api.Base, id(2, 0), id(9, 0), id(9, 1), -id(1, 1), math.MinInt64, math.MaxInt64} {
		all = append(all, api.Packet{Kind: api.PAsk, From: 1, To: 2, Tid: tid})
	}
	for _, many := range []int{0, 11, -1, 1<<16 + 1, math.MinInt, math.MaxInt} {
		all = append(all, api.Packet{Kind: api.PPrep, From: 1, To: 2, Tid: id(1, 1), N: many})
	}
	for kind := api.PVote; kind <= api.PAsk; kind++ {
		all = append(all, api.Packet{Kind: kind, From: 1, To: 2, Tid: id(1, 1), N: 1})
	}
	for _, kind := range []int{api.PPrep, api.PTold, api.PAsk} {
		all = append(all, api.Packet{Kind: kind, From: 1, To: 2, Tid: id(1, 1), Yes: true})
	}
	return append(all, api.Packet{Kind: api.PPrep, From: 1, To: 2, Tid: id(1, 1), N: 1, Yes: true})
}

// noPlaces are numbers at which none stands, where so many are on their way.
func noPlaces(many int) []int {
	return []int{math.MinInt, math.MinInt + 1, math.MinInt32, -1 << 32, -400, -2, -1, many, many + 1, many + 400, 1 << 31, 1 << 32, 1<<32 + 1, math.MaxInt - 1, math.MaxInt}
}

// wantAll holds all that is to be seen of a Net against the packets that ought to be on their way, in order.
func wantAll(t *testing.T, what string, n *Net, all ...api.Packet) {
	t.Helper()
	if got := n.Len(); got != len(all) {
		t.Errorf("%s: Len %d, want %d", what, got, len(all))
	}
	for i, want := range all {
		if p, is := n.Look(i); !is || p != want {
			t.Errorf("%s: Look(%d) %+v, %v, want %+v", what, i, p, is, want)
		}
	}
	for _, i := range noPlaces(len(all)) {
		if p, is := n.Look(i); is || p != (api.Packet{}) {
			t.Errorf("%s: Look(%d) %+v, %v where there is none", what, i, p, is)
		}
	}
}

func wantSend(t *testing.T, what string, n *Net, p api.Packet, is bool) {
	t.Helper()
	if got := n.Send(p); got != is {
		t.Errorf("%s: Send(%+v) %v, want %v", what, p, got, is)
	}
}

func wantTwice(t *testing.T, what string, n *Net, i int, is bool) {
	t.Helper()
	if got := n.Twice(i); got != is {
		t.Errorf("%s: Twice(%d) %v, want %v", what, i, got, is)
	}
}

// wantTake takes the i-th, which ought to be that one.
func wantTake(t *testing.T, what string, n *Net, i int, want api.Packet) {
	t.Helper()
	if p, is := n.Take(i); !is || p != want {
		t.Errorf("%s: Take(%d) %+v, %v, want %+v", what, i, p, is, want)
	}
}

// wantNone takes, and sends anew, at places where there is none: nothing changes by it.
func wantNone(t *testing.T, what string, n *Net, all ...api.Packet) {
	t.Helper()
	for _, i := range noPlaces(len(all)) {
		if p, is := n.Take(i); is || p != (api.Packet{}) {
			t.Errorf("%s: Take(%d) %+v, %v where there is none", what, i, p, is)
		}
		wantTwice(t, what, n, i, false)
	}
	wantAll(t, what, n, all...)
}

// netOf is a Net with these on their way.
func netOf(t *testing.T, all ...api.Packet) *Net {
	t.Helper()
	n := New()
	for _, p := range all {
		wantSend(t, "P16.1: at first", n, p, true)
	}
	return n
}

func TestNew(t *testing.T) {
	n := New()
	if n == nil {
		t.Fatal("P16.1: New is nil")
	}
	wantAll(t, "P16.1: a new one", n)
	wantNone(t, "P16.1: a new one", n)
	wantSend(t, "P16.1: the first", n, ask(7), true)
	wantAll(t, "P16.1: the first", n, ask(7))
	wantNone(t, "P16.1: the first", n, ask(7))
	wantTake(t, "P16.1: the first", n, 0, ask(7))
	wantAll(t, "P16.1: empty again", n)
	wantNone(t, "P16.1: empty again", n)
}

// The book stands as the bytes do; and not as the numbers do.
func TestBookRises(t *testing.T) {
	if !slices.Equal(book(), sorted(book())) {
		t.Error("the book is not in order")
	}
	one, other := id(1, 0x01000000), id(1, 1)
	at := func(tid int64) int { return slices.IndexFunc(book(), func(p api.Packet) bool { return p.Tid == tid }) }
	if one < other || at(one) > at(other) {
		t.Error("of the book no greater Tid goes ahead of a less one")
	}
}

// However they were sent: one by one of each Kind, each broker, each byte of a Tid, each N and Yes.
func TestOrder(t *testing.T) {
	all := book()
	backwards := book()
	slices.Reverse(backwards)
	wantAll(t, "P16.1: sent in order", netOf(t, all...), all...)
	wantAll(t, "P16.1: sent backwards", netOf(t, backwards...), all...)
	for k := range all {
		n := netOf(t, slices.Concat(all[k:], all[:k])...)
		wantAll(t, fmt.Sprintf("P16.1: sent from %d on", k), n, all...)
	}
	for step := 3; step < len(all); step += 2 {
		if len(all)%step == 0 || step%7 == 0 {
			continue
		}
		n := New()
		for k := range all {
			wantSend(t, "P16.1", n, all[k*step%len(all)], true)
		}
		wantAll(t, fmt.Sprintf("P16.1: sent by steps of %d", step), n, all...)
	}
}

// Each two of the book, in both orders.
func TestOrderOfEachTwo(t *testing.T) {
	all := book()
	for k, p := range all {
		for _, q := range all[k:] {
			wantAll(t, "P16.1: the lower one first", netOf(t, p, q), p, q)
			wantAll(t, "P16.1: the higher one first", netOf(t, q, p), p, q)
		}
	}
}

// By the lowest byte of a Tid first, whatever stands in the others.
func TestOrderOfTids(t *testing.T) {
	n := New()
	for _, tid := range []int64{id(2, 1), id(1, 2), id(1, 0x0102), id(1, 0x0200), id(1, 0x030000), id(1, 0x04000000), id(1, 0x01ffff), id(3, 1), id(1, 0x80)} {
		wantSend(t, "P16.1: Tids", n, api.Packet{Kind: api.PTold, From: 4, To: 4, Tid: tid}, true)
	}
	var all []api.Packet
	for _, tid := range []int64{id(1, 0x04000000), id(1, 0x030000), id(1, 0x0200), id(2, 1), id(3, 1), id(1, 2), id(1, 0x0102), id(1, 0x80), id(1, 0x01ffff)} {
		all = append(all, api.Packet{Kind: api.PTold, From: 4, To: 4, Tid: tid})
	}
	wantAll(t, "P16.1: Tids", n, all...)
}

// Each packet comes out as it went in, field by field.
func TestEachComesOutWhole(t *testing.T) {
	n := New()
	for _, p := range book() {
		wantSend(t, "P16.1", n, p, true)
		wantAll(t, "P16.1: one alone", n, p)
		wantTake(t, "P16.1: one alone", n, 0, p)
		wantAll(t, "P16.1: gone", n)
	}
}

// Packets that are alike stand beside one another, each at a place of its own.
func TestAlike(t *testing.T) {
	a, b, c := ask(1), ask(2), ask(3)
	n := netOf(t, b, c, a, b, c, b)
	wantAll(t, "P16.1: alike", n, a, b, b, b, c, c)
	wantNone(t, "P16.1: alike", n, a, b, b, b, c, c)
	wantSend(t, "P16.1: alike", n, a, true)
	wantAll(t, "P16.1: alike", n, a, a, b, b, b, c, c)
}

// A Take at each place takes that one, once.
func TestTakeAtEachPlace(t *testing.T) {
	a, b, c := ask(1), ask(2), ask(3)
	all := []api.Packet{a, a, b, b, b, c, c}
	for i, want := range all {
		what := fmt.Sprintf("P16.1: Take(%d)", i)
		n := netOf(t, c, b, a, b, c, a, b)
		wantTake(t, what, n, i, want)
		left := slices.Delete(slices.Clone(all), i, i+1)
		wantAll(t, what, n, left...)
		wantNone(t, what, n, left...)
		wantSend(t, what+", sent again", n, want, true)
		wantAll(t, what+", sent again", n, all...)
	}
}

// Of alike ones each Take takes one alone, till none is left.
func TestTakeOneByOne(t *testing.T) {
	a, b, c := ask(1), ask(2), ask(3)
	n := netOf(t, b, b, b, a, c)
	wantTake(t, "P16.1: the last of alike ones", n, 3, b)
	wantAll(t, "P16.1: two left", n, a, b, b, c)
	wantTake(t, "P16.1: the first of alike ones", n, 1, b)
	wantAll(t, "P16.1: one left", n, a, b, c)
	wantTake(t, "P16.1: the last alike one", n, 1, b)
	wantAll(t, "P16.1: none left", n, a, c)
	wantTake(t, "P16.1: what has moved up", n, 1, c)
	wantTake(t, "P16.1: the last of all", n, 0, a)
	wantAll(t, "P16.1: all gone", n)
	wantNone(t, "P16.1: all gone", n)
}

// All of the book is taken from the front, from the end, from the middle.
func TestTakeAll(t *testing.T) {
	for _, from := range []func(many int) int{
		func(int) int { return 0 },
		func(many int) int { return many - 1 },
		func(many int) int { return many / 2 },
	} {
		all := book()
		n := netOf(t, all...)
		for len(all) > 0 {
			i := from(len(all))
			wantTake(t, "P16.1: Take of the book", n, i, all[i])
			all = slices.Delete(all, i, i+1)
			wantAll(t, "P16.1: Take of the book", n, all...)
		}
	}
}

func TestTwice(t *testing.T) {
	a, b, c := ask(1), ask(2), ask(3)
	n := netOf(t, c, a, b)
	wantTwice(t, "P16.1: the first", n, 0, true)
	wantAll(t, "P16.1: the first twice", n, a, a, b, c)
	wantTwice(t, "P16.1: one in the middle", n, 2, true)
	wantAll(t, "P16.1: the middle twice", n, a, a, b, b, c)
	wantTwice(t, "P16.1: the last", n, 4, true)
	wantAll(t, "P16.1: the last twice", n, a, a, b, b, c, c)
	wantTwice(t, "P16.1: one that is there twice", n, 1, true)
	wantAll(t, "P16.1: the first three times", n, a, a, a, b, b, c, c)
	wantNone(t, "P16.1: behind Twice", n, a, a, a, b, b, c, c)
	wantTake(t, "P16.1: behind Twice", n, 4, b)
	wantTake(t, "P16.1: behind Twice", n, 3, b)
	wantAll(t, "P16.1: behind Twice, both taken", n, a, a, a, c, c)
}

func TestTwiceAtEachPlace(t *testing.T) {
	all := book()
	for i := range all {
		n := netOf(t, all...)
		wantTwice(t, "P16.1", n, i, true)
		wantAll(t, fmt.Sprintf("P16.1: Twice(%d)", i), n, slices.Insert(slices.Clone(all), i, all[i])...)
	}
}

// Look changes nothing, however often, and wherever.
func TestLookChangesNothing(t *testing.T) {
	a, b := ask(1), ask(2)
	n := netOf(t, b, a, b)
	for range 5 {
		for i := -2; i < 6; i++ {
			n.Look(i)
			n.Len()
		}
		wantAll(t, "P16.1: Look", n, a, b, b)
	}
	full := netOf(t, asks(400)...)
	for i := range 402 {
		full.Look(i)
	}
	wantAll(t, "P16.1: Look, full", full, asks(400)...)
	wantSend(t, "P16.1: Look makes no room", full, ask(1), false)
}

// What may not be does not come on its way, whether or not there is room.
func TestSendOfWhatMayNotBe(t *testing.T) {
	empty, some, full := New(), netOf(t, ask(2), ask(1), ask(2)), netOf(t, asks(400)...)
	last := netOf(t, asks(399)...)
	for _, p := range mayNot() {
		for _, n := range []*Net{empty, some, last, full} {
			wantSend(t, "P16.1: it may not be", n, p, false)
		}
		if empty.Len() != 0 || some.Len() != 3 || last.Len() != 399 || full.Len() != 400 {
			t.Errorf("P16.1: behind Send(%+v): Len %d, %d, %d, %d", p, empty.Len(), some.Len(), last.Len(), full.Len())
		}
	}
	wantAll(t, "P16.1: empty, behind what may not be", empty)
	wantNone(t, "P16.1: empty, behind what may not be", empty)
	wantAll(t, "P16.1: some, behind what may not be", some, ask(1), ask(2), ask(2))
	wantAll(t, "P16.1: full, behind what may not be", full, asks(400)...)
	wantSend(t, "P16.1: the last one that has room", last, ask(400), true)
	wantAll(t, "P16.1: the last one that has room", last, asks(400)...)
}
