package net

import (
	"cmp"
	"fmt"
	"slices"
	"testing"

	"postillion/api"
	"postillion/wire"
)

// dice throws numbers.
type dice uint64

func (d *dice) of(k int) int {
	*d = *d*6364136223846793005 + 1442695040888963407
	return int(uint64(*d)>>33) % k
}

// thrown is a packet that may be, of which there are not too many.
func (d *dice) thrown() api.Packet {
	p := api.Packet{Kind: 1 + d.of(5), From: 1 + d.of(2), To: 7 + d.of(2), Tid: id(1+d.of(2), int64(1+d.of(2))<<(8*d.of(4)))}
	switch p.Kind {
	case api.PPrep:
		p.N = 1 + d.of(10)
	case api.PVote, api.PSay:
		p.Yes = d.of(2) == 0
	}
	return p
}

// plainOne is a packet, and its bytes.
type plainOne struct {
	bytes string
	p     api.Packet
}

// plain is a Net that keeps each by itself, sorts them all anew each time, and lays the others anew to take one.
type plain []plainOne

func (l *plain) send(p api.Packet) bool {
	if len(*l) > 399 {
		return false
	}
	*l = append(*l, plainOne{string(wire.Encode(p)), p})
	slices.SortFunc(*l, func(a, b plainOne) int { return cmp.Compare(a.bytes, b.bytes) })
	return true
}

func (l plain) look(i int) (api.Packet, bool) {
	for k, one := range l {
		if k == i {
			return one.p, true
		}
	}
	return api.Packet{}, false
}

func (l *plain) take(i int) (api.Packet, bool) {
	taken, is := l.look(i)
	var left plain
	for k, one := range *l {
		if k != i {
			left = append(left, one)
		}
	}
	*l = left
	return taken, is
}

func (l plain) all() []api.Packet {
	var all []api.Packet
	for _, one := range l {
		all = append(all, one.p)
	}
	return all
}

// step lets both do the same, and holds what they answer against each other; grows: more come than go.
func (l *plain) step(t *testing.T, what string, n *Net, d *dice, grows bool) {
	t.Helper()
	i := d.of(len(*l)+4) - 2
	sends := 1
	if grows {
		sends = 7
	}
	switch k := d.of(12); {
	case k < sends:
		p := d.thrown()
		wantSend(t, what, n, p, l.send(p))
	case k < sends+2:
		p, is := l.look(i)
		wantTwice(t, what, n, i, is && l.send(p))
	case k == sends+2:
		none := mayNot()
		wantSend(t, what, n, none[d.of(len(none))], false)
	default:
		look, isLook := n.Look(i)
		want, is := l.take(i)
		if got, was := n.Take(i); got != want || was != is || look != want || isLook != is {
			t.Errorf("%s: at %d Look %+v, %v, Take %+v, %v; want %+v, %v", what, i, look, isLook, got, was, want, is)
		}
	}
	if got := n.Len(); got != len(*l) {
		t.Errorf("%s: Len %d, want %d", what, got, len(*l))
	}
}

// alike is how many of them are alike to the one in front of them.
func (l plain) alike() int {
	alike := 0
	for k := 1; k < len(l); k++ {
		if l[k] == l[k-1] {
			alike++
		}
	}
	return alike
}

// Steps of all kinds, held against a plainer Net behind each: till as many as may be are on their way, and till none is.
func TestAgainstPlain(t *testing.T) {
	d := dice(16)
	full, empty, alike := 0, 0, 0
	for run := range 6 {
		l, n := plain{}, New()
		for step := range 5000 {
			what := fmt.Sprintf("P16.1: run %d, step %d", run, step)
			l.step(t, what, n, &d, step%2500 < 1000)
			if step%20 == 0 {
				wantAll(t, what, n, l.all()...)
				alike += l.alike()
			}
			if len(l) == 400 {
				full++
			}
			if len(l) == 0 {
				empty++
			}
			if t.Failed() {
				return
			}
		}
	}
	if full < 100 || empty < 100 || alike < 1000 {
		t.Error("P16.1: too seldom full, or empty, or too few alike:", full, empty, alike)
	}
}
