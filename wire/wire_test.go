package wire

import (
	"fmt"
	"testing"

	"postillion/api"
)

const base = int64(api.Base)

// tid is an id of broker 3, with a byte beyond 127 in it.
const tid = 3*base + 0xfe0102

// head is the bytes of tid; least and greatest those of the least and the greatest Tid.
const (
	head     = "\x02\x01\xfe\x00\x03\x00\x00\x00"
	least    = "\x01\x00\x00\x00\x01\x00\x00\x00"
	greatest = "\xff\xff\xff\xff\x08\x00\x00\x00"
)

// wide is how many bytes a packet has.
const wide = 21

// listed is a packet that may be, and its bytes, written by hand, the sum behind the others.
type listed struct {
	name  string
	p     api.Packet
	bytes string
}

// book has packets of each Kind, with the least and the greatest that they may have.
func book() []listed {
	last := 9*base - 1
	return []listed{
		{"PPrep, an operation", api.Packet{Kind: 1, From: 3, To: 8, Tid: tid, N: 1}, "\x01\x00\x03\x00\x08\x00" + head + "\x01\x00\x00" + "\x5e\xaa\x61\x30"},
		{"PPrep, 10 operations", api.Packet{Kind: 1, From: 1, To: 2, Tid: tid, N: 10}, "\x01\x00\x01\x00\x02\x00" + head + "\x0a\x00\x00" + "\xf9\x6b\xda\xcf"},
		{"PPrep, the least", api.Packet{Kind: 1, From: 1, To: 1, Tid: base + 1, N: 1}, "\x01\x00\x01\x00\x01\x00" + least + "\x01\x00\x00" + "\xa5\xf3\x66\x88"},
		{"PPrep, the greatest", api.Packet{Kind: 1, From: 8, To: 8, Tid: last, N: 10}, "\x01\x00\x08\x00\x08\x00" + greatest + "\x0a\x00\x00" + "\xe8\x61\x0a\x58"},
		{"PVote, Yes", api.Packet{Kind: 2, From: 2, To: 5, Tid: tid, Yes: true}, "\x02\x00\x02\x00\x05\x00" + head + "\x00\x00\x01" + "\xeb\x4e\x0f\x90"},
		{"PVote, not Yes", api.Packet{Kind: 2, From: 2, To: 5, Tid: tid}, "\x02\x00\x02\x00\x05\x00" + head + "\x00\x00\x00" + "\xe8\xcd\x64\x62"},
		{"PVote, the least", api.Packet{Kind: 2, From: 1, To: 1, Tid: base + 1}, "\x02\x00\x01\x00\x01\x00" + least + "\x00\x00\x00" + "\x3a\x05\x0a\xcd"},
		{"PVote, the greatest", api.Packet{Kind: 2, From: 8, To: 8, Tid: last, Yes: true}, "\x02\x00\x08\x00\x08\x00" + greatest + "\x00\x00\x01" + "\xc2\xea\x72\x3d"},
		{"PSay, Yes", api.Packet{Kind: 3, From: 5, To: 2, Tid: tid, Yes: true}, "\x03\x00\x05\x00\x02\x00" + head + "\x00\x00\x01" + "\x79\xbe\x91\x6e"},
		{"PSay, not Yes", api.Packet{Kind: 3, From: 5, To: 2, Tid: tid}, "\x03\x00\x05\x00\x02\x00" + head + "\x00\x00\x00" + "\x7a\x3d\xfa\x9c"},
		{"PTold", api.Packet{Kind: 4, From: 7, To: 3, Tid: tid}, "\x04\x00\x07\x00\x03\x00" + head + "\x00\x00\x00" + "\x71\x9c\x67\xf9"},
		{"PTold, the greatest", api.Packet{Kind: 4, From: 8, To: 8, Tid: last}, "\x04\x00\x08\x00\x08\x00" + greatest + "\x00\x00\x00" + "\xf2\xd6\xaf\x0a"},
		{"PAsk", api.Packet{Kind: 5, From: 6, To: 3, Tid: tid}, "\x05\x00\x06\x00\x03\x00" + head + "\x00\x00\x00" + "\x2f\xbd\x0d\xc1"},
		{"PAsk, of itself", api.Packet{Kind: 5, From: 4, To: 4, Tid: 5*base + 0x80402010}, "\x05\x00\x04\x00\x04\x00" + "\x10\x20\x40\x80\x05\x00\x00\x00" + "\x00\x00\x00" + "\x0a\x3a\xde\xcc"},
	}
}

func tell(p api.Packet) string { return fmt.Sprintf("%+v", p) }

// wantPacket asks that the bytes of p are those, and that p is what they say.
func wantPacket(t *testing.T, name string, p api.Packet, bytes string) {
	t.Helper()
	if b := Encode(p); string(b) != bytes {
		t.Errorf("P15.1: %s: Encode %x, want %x", name, b, bytes)
	}
	if got, err := Decode([]byte(bytes)); err != api.OK || got != p {
		t.Errorf("P15.1: %s: Decode of %x: %s, %d, want %s", name, bytes, tell(got), err, tell(p))
	}
}

// wantNil asks that p has no bytes.
func wantNil(t *testing.T, p api.Packet) {
	t.Helper()
	if b := Encode(p); b != nil {
		t.Errorf("P15.1: Encode(%s) %x, want nil", tell(p), b)
	}
}

// wantForm asks that no packet has those bytes.
func wantForm(t *testing.T, name, bytes string) {
	t.Helper()
	got, err := Decode([]byte(bytes))
	if err != api.ErrForm {
		t.Errorf("P15.1: %s: Decode of %.100x: error %d, want ErrForm", name, bytes, err)
	}
	if got != (api.Packet{}) {
		t.Errorf("P0.2: %s: Decode of %.100x: beside ErrForm %s, want the zero packet", name, bytes, tell(got))
	}
}

func TestBook(t *testing.T) {
	kinds := map[int]bool{}
	for _, x := range book() {
		wantPacket(t, x.name, x.p, x.bytes)
		kinds[x.p.Kind] = true
		if len(x.bytes) != wide {
			t.Errorf("%s has %d bytes in the book", x.name, len(x.bytes))
		}
	}
	if len(kinds) != 5 {
		t.Errorf("the book has packets of %d Kinds", len(kinds))
	}
}

// Each packet of a Tid: of each Kind, from each broker to each, with each N and Yes.
func TestEachPacket(t *testing.T) {
	n := 0
	seen := map[string]api.Packet{}
	for p := range packets() {
		n++
		wantPacket(t, "each packet", p, plainBytes(p))
		if other, is := seen[string(Encode(p))]; is {
			t.Errorf("P15.1: %s and %s have the same bytes", tell(p), tell(other))
		}
		seen[string(Encode(p))] = p
	}
	if want := 64 * (10 + 2 + 2 + 1 + 1); n != want {
		t.Errorf("%d packets, want %d", n, want)
	}
}

// Each byte of a Tid, and the first and the last id of each broker.
func TestEachTid(t *testing.T) {
	ids := []int64{tid, base + 0x01020304, 8*base + 0xfffefdfc}
	for broker := int64(1); broker <= 8; broker++ {
		ids = append(ids, broker*base+1, (broker+1)*base-1)
	}
	for place := range 4 {
		for b := int64(1); b <= 255; b++ {
			ids = append(ids, 6*base+b<<(8*place))
		}
	}
	for _, x := range book() {
		for _, id := range ids {
			p := x.p
			p.Tid = id
			wantPacket(t, x.name+", another Tid", p, plainBytes(p))
		}
	}
}
