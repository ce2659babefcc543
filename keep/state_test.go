package keep

import (
	"bytes"
	"encoding/binary"
	"fmt"
	"hash/crc32"
	"slices"
	"testing"

	"postillion/api"
	"postillion/file"
	"postillion/store"
)

// plainFile is the file's bytes by another way.
func plainFile(from int, body []byte) []byte {
	all := append(binary.LittleEndian.AppendUint16(nil, uint16(from)), body...)
	s := crc32.Checksum(all, crc32.MakeTable(crc32.Castagnoli))
	return append(binary.LittleEndian.AppendUint64(nil, uint64(s)), all...)
}

func TestStateFile(t *testing.T) {
	seen := map[string]string{}
	for n, s := range append(states(t, 1, life()), store.New(2), store.New(8)) {
		for _, from := range []int{0, 1, 9, 255, 256, 257, 998, 999} {
			b := encode(s, from)
			if !bytes.Equal(b, plainFile(from, store.Encode(s))) {
				t.Errorf("P12.1: state %d, segment %d: %x", n, from, b)
			}
			if got, at, err := decode(b); !store.Eq(got, s) || at != from || err != api.OK {
				t.Errorf("P12.1: state %d, segment %d: decoded %+v, %d, error %d", n, from, got, at, err)
			}
			name := fmt.Sprint(n, " ", from)
			if other, is := seen[string(b)]; is {
				t.Errorf("P12.1: %s and %s have the same bytes", name, other)
			}
			seen[string(b)] = name
		}
	}
}

func wantNoState(t *testing.T, what string, b []byte) {
	t.Helper()
	s, from, err := decode(b)
	if !store.Eq(s, api.State{}) || from != 0 || err != api.ErrCorrupt {
		t.Errorf("P12.1: %s: decoded %+v, %d, error %d", what, s, from, err)
	}
	d := with(t, file.New(api.MaxFile), "state", b)
	was := whole(d)
	wantNoOpen(t, what, d, 1, api.ErrCorrupt)
	wantWhole(t, "P12.1: "+what, d, was)
}

// Bytes that no state has, with sums that are right all the same.
func TestNoStateFile(t *testing.T) {
	good := store.Encode(store.New(1))
	for what, b := range map[string][]byte{
		"nil": nil, "empty": {}, "a byte": {0}, "eight noughts": make([]byte, 8), "ten noughts": make([]byte, 10), "noughts": make([]byte, 100),
		"a number alone":             plainFile(0, nil),
		"half a number":              plainFile(0, nil)[:9],
		"a state without a sum":      good,
		"a state that is cut":        plainFile(0, good[:len(good)-1]),
		"a state and a byte":         plainFile(0, append(slices.Clone(good), 0)),
		"two states":                 plainFile(0, slices.Concat(good, good)),
		"no state":                   plainFile(0, []byte("no state, but long enough to be one")),
		"a segment that may not be":  plainFile(1000, good),
		"the last number of all":     plainFile(65535, good),
		"a sum with more than it is": append([]byte(plainFile(0, good)[:4]), append([]byte{1, 0, 0, 0}, plainFile(0, good)[8:]...)...),
	} {
		wantNoState(t, what, b)
	}
	if s, from, err := decode(plainFile(7, good)); !store.Eq(s, store.New(1)) || from != 7 || err != api.OK {
		t.Errorf("P12.1: a state that is one: %+v, %d, error %d", s, from, err)
	}
}

// Whatever bytes there are, Open ends, and tells nothing but that they are spoilt.
func TestAnyBytes(t *testing.T) {
	d := dice(3)
	for range 3000 {
		b := make([]byte, d.throw(200))
		for n := range b {
			b[n] = byte(d.throw(256) * d.throw(2))
		}
		wantNoState(t, "thrown bytes", b)
		wantNoState(t, "thrown bytes with their sum", plainFile(d.throw(1100), b))
		k, err := Open(with(t, file.New(api.MaxFile), "log000", b), 1)
		if err != api.ErrCorrupt && (err != api.OK || !store.Eq(k.State(), store.New(1))) {
			t.Errorf("P12.1: a log of %x: error %d", b, err)
		}
	}
}
