package wire

import (
	"testing"

	"postillion/api"
)

// spoil writes into b and the room behind it.
func spoil(b []byte) {
	b = b[:cap(b)]
	for k := range b {
		b[k] = '#'
	}
}

// roomy is those bytes with room behind them, in which something stands.
func roomy(bytes string) []byte {
	return []byte(bytes + "room behind")[:len(bytes)]
}

func TestDecodeTurnsNothing(t *testing.T) {
	for _, x := range book() {
		for _, bytes := range []string{x.bytes, x.bytes[:wide-1], x.bytes[:wide-4], x.bytes[:3], "", x.bytes + "x"} {
			b := roomy(bytes)
			if Decode(b); string(b[:len(b)+11]) != bytes+"room behind" {
				t.Errorf("P0.3: %s: Decode turned its bytes: %x", x.name, b[:len(b)+11])
			}
		}
	}
}

// The room behind what is handed in is not read, either.
func TestRoomIsNotRead(t *testing.T) {
	for _, x := range book() {
		if p, err := Decode(roomy(x.bytes)); err != api.OK || p != x.p {
			t.Errorf("P15.1: %s: Decode with room behind its bytes: %s, %d", x.name, tell(p), err)
		}
		b := []byte(x.bytes)
		for n := range b {
			if p, err := Decode(b[:n]); err != api.ErrForm || p != (api.Packet{}) {
				t.Errorf("P15.1: %s: Decode of %d bytes, behind which the others stand: %s, %d", x.name, n, tell(p), err)
			}
		}
	}
}

func TestEncodedIsNew(t *testing.T) {
	for _, x := range book() {
		first, other := Encode(x.p), Encode(x.p)
		spoil(first)
		if again := Encode(x.p); string(other) != x.bytes || string(again) != x.bytes {
			t.Errorf("P0.3: %s: the bytes were written into: other ones are %x, those of a later call %x", x.name, other, again)
		}
	}
}

// What Decode was handed is not kept: writing into it changes no later answer.
func TestDecodedIsNew(t *testing.T) {
	for _, x := range book() {
		b := roomy(x.bytes)
		p, _ := Decode(b)
		spoil(b)
		if again, err := Decode([]byte(x.bytes)); p != x.p || again != x.p || err != api.OK {
			t.Errorf("P0.3: %s: the bytes were written into: %s, and a later one %s, %d", x.name, tell(p), tell(again), err)
		}
	}
}

// The same is answered of the same, whatever was asked between.
func TestAskedTwice(t *testing.T) {
	all := book()
	for _, x := range all {
		for _, y := range all {
			Encode(y.p)
			Encode(api.Packet{Kind: y.p.Kind})
			Decode([]byte(y.bytes))
			Decode([]byte(y.bytes[:wide-1]))
		}
		wantPacket(t, x.name, x.p, x.bytes)
	}
}
