package rec

import (
	"slices"
	"testing"

	"postillion/api"
)

// roomy is r with room behind its lists, in which something stands.
func roomy(r api.Record) api.Record {
	parts := slices.Clip(append(slices.Clone(r.Parts), 7, 9, 8))
	puts := slices.Clip(append(slices.Clone(r.Puts), api.Put{Queue: "room", Body: "behind"}, api.Put{Queue: "?"}))
	r.Parts, r.Puts = parts[:len(r.Parts)], puts[:len(r.Puts)]
	return r
}

// room is all that stands in the lists of r and in the room behind them.
func room(r api.Record) ([]int, []api.Put) {
	return slices.Clone(r.Parts[:cap(r.Parts)]), slices.Clone(r.Puts[:cap(r.Puts)])
}

// spoil writes into b and the room behind it.
func spoil(b []byte) {
	b = b[:cap(b)]
	for k := range b {
		b[k] = '#'
	}
}

// spoilRecord writes into the lists of r and the room behind them.
func spoilRecord(r api.Record) {
	parts, puts := r.Parts[:cap(r.Parts)], r.Puts[:cap(r.Puts)]
	for k := range parts {
		parts[k] = -1
	}
	for k := range puts {
		puts[k] = api.Put{Queue: "#", Body: "#"}
	}
}

func TestNothingIsTurned(t *testing.T) {
	for _, x := range book() {
		for _, r := range []api.Record{x.r, {Kind: 10, Tid: x.r.Tid, Id: x.r.Id, Parts: x.r.Parts, Puts: x.r.Puts}} {
			r, other := roomy(r), roomy(r)
			parts, puts := room(r)
			Encode(r)
			Eq(r, other)
			Eq(other, r)
			for _, now := range []api.Record{r, other} {
				nowParts, nowPuts := room(now)
				if !slices.Equal(nowParts, parts) || !slices.Equal(nowPuts, puts) {
					t.Errorf("P0.3: %s: %v, %v; was %v, %v", x.name, nowParts, nowPuts, parts, puts)
				}
			}
		}
		for _, end := range []int{len(x.bytes), len(x.bytes) - 1} {
			b := []byte(x.bytes + "room behind")
			if Decode(b[:end]); string(b) != x.bytes+"room behind" {
				t.Errorf("P0.3: %s: Decode turned its bytes: %x", x.name, b)
			}
		}
	}
}

// The room behind what is handed in is not read, either.
func TestRoomIsNotRead(t *testing.T) {
	for _, x := range book() {
		if b := Encode(roomy(x.r)); string(b) != x.bytes {
			t.Errorf("P9.1: %s, with room behind its lists: Encode %x", x.name, b)
		}
		if !Eq(roomy(x.r), x.r) || !Eq(x.r, roomy(x.r)) {
			t.Errorf("P9.1: %s: not Eq to one with room behind its lists", x.name)
		}
		b := []byte(x.bytes)
		if r, err := Decode(b[:len(b)-1]); err != api.ErrForm || !same(r, api.Record{}) {
			t.Errorf("P9.1: %s: Decode of all bytes but the last one, behind which that stands: %s, %d", x.name, tell(r), err)
		}
		if r, err := Decode([]byte(x.bytes + "more")[:len(b)]); err != api.OK || !same(r, x.r) {
			t.Errorf("P9.1: %s: Decode with room behind its bytes: %s, %d", x.name, tell(r), err)
		}
	}
}

func TestEncodedIsNew(t *testing.T) {
	for _, x := range book() {
		r := roomy(x.r)
		first, other := Encode(r), Encode(r)
		spoil(first)
		if again := Encode(r); string(other) != x.bytes || string(again) != x.bytes || !same(r, x.r) {
			t.Errorf("P0.3: %s: the bytes were written into: other ones are %x, those of a later call %x", x.name, other, again)
		}
		spoilRecord(r)
		if string(other) != x.bytes {
			t.Errorf("P0.3: %s: the record was turned behind Encode, and the bytes are %x", x.name, other)
		}
	}
}

func TestDecodedIsNew(t *testing.T) {
	for _, x := range book() {
		b := []byte(x.bytes + "room")[:len(x.bytes)]
		first, _ := Decode(b)
		other, _ := Decode(b)
		spoilRecord(first)
		if again, _ := Decode(b); !same(other, x.r) || !same(again, x.r) || string(b) != x.bytes {
			t.Errorf("P0.3: %s: the record was turned: another one is %s, a later one %s", x.name, tell(other), tell(again))
		}
		spoil(b)
		if !same(other, x.r) {
			t.Errorf("P0.3: %s: the bytes were turned behind Decode, and the record is %s", x.name, tell(other))
		}
	}
}

// The same is answered of the same, whatever was asked between.
func TestAskedTwice(t *testing.T) {
	all := book()
	for _, x := range all {
		for _, y := range all {
			Encode(y.r)
			Decode([]byte(y.bytes[:len(y.bytes)-1]))
		}
		wantRecord(t, x.name, x.r, x.bytes)
	}
}
