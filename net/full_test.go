package net

import (
	"fmt"
	"slices"
	"testing"

	"postillion/api"
)

// way is a way to let a k-th packet come: whichever it was, and whether it came.
type way struct {
	name string
	come func(n *Net, k int) (api.Packet, bool)
}

// ways is each of them: alike ones and unlike ones, by Send and by Twice.
func ways() []way {
	send := func(n *Net, p api.Packet) (api.Packet, bool) { return p, n.Send(p) }
	twice := func(n *Net, i int) (api.Packet, bool) {
		if n.Len() == 0 {
			return send(n, ask(5))
		}
		p, _ := n.Look(i)
		return p, n.Twice(i)
	}
	return []way{
		{"alike ones by Send", func(n *Net, k int) (api.Packet, bool) { return send(n, ask(9)) }},
		{"unlike ones by Send", func(n *Net, k int) (api.Packet, bool) { return send(n, ask(401-k)) }},
		{"a few kinds by Send", func(n *Net, k int) (api.Packet, bool) { return send(n, book()[k*5%28]) }},
		{"alike ones by Twice", func(n *Net, k int) (api.Packet, bool) { return twice(n, n.Len()-1) }},
		{"unlike ones by Send, alike ones by Twice", func(n *Net, k int) (api.Packet, bool) {
			if k%2 == 0 {
				return send(n, ask(k+1))
			}
			return twice(n, k/2)
		}},
	}
}

// fill lets 400 come that way, each of which ought to, and is them, in order.
func (w way) fill(t *testing.T, n *Net) []api.Packet {
	t.Helper()
	var all []api.Packet
	for k := range 400 {
		p, is := w.come(n, k)
		if !is || n.Len() != k+1 {
			t.Fatalf("P16.1: %s: the packet %d: %v, Len %d", w.name, k, is, n.Len())
		}
		all = append(all, p)
		if k == 398 {
			wantAll(t, "P16.1: "+w.name+": 399", n, sorted(all)...)
		}
	}
	return sorted(all)
}

// wantFull asks that none comes any more: neither one that is there, nor another, nor one that is there once more.
func wantFull(t *testing.T, what string, n *Net, all ...api.Packet) {
	t.Helper()
	for range 2 {
		wantSend(t, what, n, all[0], false)
		wantSend(t, what, n, all[399], false)
		wantSend(t, what, n, ask(700), false)
		wantSend(t, what, n, api.Packet{}, false)
		for i := range all {
			wantTwice(t, what, n, i, false)
		}
	}
	wantNone(t, what, n, all...)
}

// 400 are on their way, and the 401st is not, whichever they are; behind a Take there is room for just one.
func TestFull(t *testing.T) {
	for _, w := range ways() {
		n := New()
		all := w.fill(t, n)
		wantFull(t, "P16.1: "+w.name+": full", n, all...)
		for _, i := range []int{0, 1, 200, 398, 399} {
			what := fmt.Sprintf("P16.1: %s: behind Take(%d)", w.name, i)
			wantTake(t, what, n, i, all[i])
			all = slices.Delete(all, i, i+1)
			wantAll(t, what, n, all...)
			wantSend(t, what, n, ask(500+i), true)
			all = sorted(append(all, ask(500+i)))
			wantFull(t, what+", and a Send", n, all...)

			wantTake(t, what+" again", n, i, all[i])
			all = slices.Delete(all, i, i+1)
			wantTwice(t, what+" again", n, i/2, true)
			all = slices.Insert(all, i/2, all[i/2])
			wantFull(t, what+", and a Twice", n, all...)
		}
	}
}

// What was taken makes room, what was looked at, or refused, does not; and as many come as went.
func TestRoomAgain(t *testing.T) {
	n := netOf(t, asks(400)...)
	for k := range 400 {
		if _, is := n.Take(k % (400 - k)); !is || n.Len() != 399-k {
			t.Fatalf("P16.1: Take %d: %v, Len %d", k, is, n.Len())
		}
		n.Take(400 - k)
		n.Twice(-1)
		n.Look(0)
	}
	wantAll(t, "P16.1: all gone", n)
	for k := range 400 {
		wantSend(t, "P16.1: room again", n, ask(400-k), true)
	}
	wantFull(t, "P16.1: full again", n, asks(400)...)
}

// A refused Send is not kept for later.
func TestRefusedIsLost(t *testing.T) {
	n := netOf(t, asks(400)...)
	wantSend(t, "P16.1: full", n, book()[0], false)
	wantTwice(t, "P16.1: full", n, 0, false)
	first := asks(400)[0]
	wantTake(t, "P16.1: behind what was refused", n, 0, first)
	wantAll(t, "P16.1: behind what was refused", n, asks(400)[1:]...)
}
