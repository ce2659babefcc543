package net

import (
	"testing"

	"postillion/api"
)

// Two Nets know nothing of one another.
func TestSideBySide(t *testing.T) {
	a, b := New(), New()
	wantSend(t, "P16.1: the one", a, ask(2), true)
	wantAll(t, "P16.1: the other", b)
	wantNone(t, "P16.1: the other", b)
	wantSend(t, "P16.1: the other", b, ask(1), true)
	wantSend(t, "P16.1: the other", b, ask(2), true)
	wantTwice(t, "P16.1: the other", b, 1, true)
	wantAll(t, "P16.1: the one", a, ask(2))
	wantTake(t, "P16.1: the one", a, 0, ask(2))
	wantAll(t, "P16.1: the one", a)
	wantAll(t, "P16.1: the other", b, ask(1), ask(2), ask(2))
	for n := range 400 {
		wantSend(t, "P16.1: the one", a, ask(n+1), true)
	}
	wantSend(t, "P16.1: the one is full", a, ask(1), false)
	wantSend(t, "P16.1: the other is not", b, ask(3), true)
	wantAll(t, "P16.1: the other", b, ask(1), ask(2), ask(2), ask(3))
}

// ofNone asks that each call of n answers that there is nothing, and that nothing comes to be.
func ofNone(t *testing.T, what string, n *Net) {
	t.Helper()
	for range 2 {
		wantAll(t, what, n)
		for _, p := range append(book(), mayNot()...) {
			wantSend(t, what, n, p, false)
		}
		for _, i := range append(noPlaces(0), 1, 399) {
			wantTwice(t, what, n, i, false)
		}
		wantNone(t, what, n)
	}
}

func TestNilNet(t *testing.T) {
	ofNone(t, "P16.1: a nil *Net", nil)
}

// No call of a Net that New did not make panics, and nothing comes into it.
func TestNetNotByNew(t *testing.T) {
	ofNone(t, "P0.1: a Net that New did not make", &Net{})
	ofNone(t, "P0.1: a Net that New did not make", new(Net))
}

// A packet is a value: writing into what was sent, or told, changes nothing that is on its way.
func TestAnswersAreTheCallersOwn(t *testing.T) {
	n := New()
	p := ask(1)
	n.Send(p)
	p.Tid, p.Kind = id(8, 8), api.PSay
	q, _ := n.Look(0)
	q.To, q.Yes = 7, true
	wantAll(t, "P0.3", n, ask(1))
	taken, _ := n.Take(0)
	n.Send(ask(2))
	n.Twice(0)
	if taken != ask(1) {
		t.Errorf("P0.3: what was taken became %+v", taken)
	}
	wantAll(t, "P0.3", n, ask(2), ask(2))
}

// The same steps tell the same, and end at the same.
func TestTheSameAgain(t *testing.T) {
	a, b := New(), New()
	for k, p := range append(book(), mayNot()...) {
		if a.Send(p) != b.Send(p) || a.Twice(k/2) != b.Twice(k/2) {
			t.Errorf("P0.5: step %d", k)
		}
		x, isX := a.Take(k / 3)
		y, isY := b.Take(k / 3)
		if x != y || isX != isY {
			t.Errorf("P0.5: step %d: Take %+v, %v; %+v, %v", k, x, isX, y, isY)
		}
	}
	var all []api.Packet
	for i := range a.Len() {
		p, _ := a.Look(i)
		all = append(all, p)
	}
	wantAll(t, "P0.5", b, all...)
}
