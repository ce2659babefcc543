package rec

import (
	"math"
	"slices"
	"strings"
	"testing"

	"postillion/api"
)

// noTids are numbers that are no ids.
var noTids = []int64{math.MinInt64, -base - 1, -base, -1, 0, 1, base - 1, base, 2 * base, 8 * base, 9 * base, 9*base + 1, math.MaxInt64}

// noKinds are numbers that are no Kinds; of some of them the lowest sixteen bits are one.
var noKinds = []int{math.MinInt, -65535, -1, 0, 10, 11, 255, 256, 257, 65536, 65537, 65541, 1<<32 + 1, math.MaxInt}

// noPuts are Puts that may not be.
var noPuts = []api.Put{{}, {Body: "x"}, {Queue: "Q"}, {Queue: "abcdefghi"}, {Queue: "a1"}, {Queue: "é"}, {Queue: "\xff"}, {Queue: "q", Body: strings.Repeat("x", 61)}, {Queue: "q", Body: strings.Repeat("x", 1<<16)}, {Queue: strings.Repeat("q", 1<<16+1)}}

// noParts are Parts that may not be, of any Kind.
var noParts = [][]int{{0}, {9}, {-1}, {65537}, {math.MinInt}, {math.MaxInt}, {1, 1}, {2, 1}, {8, 7}, {1, 3, 2}, {0, 1}, {1, 9}, {1, 65538}, {1, 2, 3, 4, 5, 6, 6}, {1, 2, 3, 4, 5, 6, 9}, {1, 2, 3, 4, 5, 6, 7, 8}, {1, 2, 3, 4, 5, 6, 7, 8, 9}}

func TestEncodeWrongHeads(t *testing.T) {
	wantNil(t, api.Record{})
	for _, x := range book() {
		for _, kind := range noKinds {
			r := x.r
			r.Kind = kind
			wantNil(t, r)
		}
		for _, id := range noTids {
			r := x.r
			r.Tid = id
			wantNil(t, r)
		}
	}
}

// What a Kind has, and may not be as it is; and what it does not have.
func TestEncodeWrongFields(t *testing.T) {
	for _, x := range book() {
		for _, id := range noTids {
			r := x.r
			r.Id = id
			if r.Kind == api.RTake || id != 0 {
				wantNil(t, r)
			}
		}
		if x.r.Kind != api.RTake {
			r := x.r
			r.Id = tid
			wantNil(t, r)
		}
		if x.r.Kind != api.RDone {
			r := x.r
			r.Yes = true
			wantNil(t, r)
		}
		for _, parts := range noParts {
			r := x.r
			r.Parts = parts
			wantNil(t, r)
		}
	}
	wantNil(t, api.Record{Kind: api.RColl, Tid: tid})
	wantNil(t, api.Record{Kind: api.RTold, Tid: tid})
	wantNil(t, api.Record{Kind: api.RTold, Tid: tid, Parts: []int{1, 2}})
	for _, kind := range []int{api.RTx, api.RTake, api.RBack, api.RPrep, api.RDone, api.RYes} {
		r := api.Record{Kind: kind, Tid: tid, Parts: []int{1}}
		if kind == api.RTake {
			r.Id = tid
		}
		wantNil(t, r)
	}
}

func TestEncodeWrongPuts(t *testing.T) {
	ten, _ := tenPuts()
	for _, x := range book() {
		r := x.r
		if r.Kind != api.RPrep && r.Kind != api.RYes {
			r.Puts = ten[:1]
			wantNil(t, r)
			continue
		}
		for _, n := range []int{11, 12, 1000, 65536, 65537} {
			// So many are put slowly, if they are put at all.
			if t.Failed() {
				return
			}
			r.Puts = slices.Repeat(ten[:1], n)
			wantNil(t, r)
		}
		for _, put := range noPuts {
			for place := range ten {
				r.Puts = slices.Clone(ten)
				r.Puts[place] = put
				wantNil(t, r)
			}
			r.Puts = []api.Put{put}
			wantNil(t, r)
		}
	}
}

func TestDecodeFronts(t *testing.T) {
	wantForm(t, "no bytes", "")
	if r, err := Decode(nil); err != api.ErrForm || !same(r, api.Record{}) {
		t.Errorf("P0.4: Decode(nil) %s, %d", tell(r), err)
	}
	for _, x := range book() {
		for n := range len(x.bytes) {
			wantForm(t, x.name+", a front", x.bytes[:n])
		}
		for b := range 256 {
			wantForm(t, x.name+", a byte more", x.bytes+string([]byte{byte(b)}))
		}
		wantForm(t, x.name+", twice", x.bytes+x.bytes)
		wantForm(t, x.name+", without its first byte", x.bytes[1:])
	}
}

func TestDecodeTruth(t *testing.T) {
	for b := 2; b <= 255; b++ {
		wantForm(t, "a truth that is none", "\x05\x00"+head+string([]byte{byte(b)}))
	}
}

func TestDecodeWrongHeads(t *testing.T) {
	for _, x := range book() {
		for kind := range 65536 {
			if kind == x.r.Kind || kind > 600 && kind%251 != 0 && kind < 65500 {
				continue
			}
			bytes := string([]byte{byte(kind), byte(kind >> 8)}) + x.bytes[2:]
			if kind == 0 || kind > 9 {
				wantForm(t, x.name+", of no Kind", bytes)
			} else {
				wantFixed(t, bytes)
			}
		}
		for _, id := range noTids {
			wantForm(t, x.name+", of no Tid", x.bytes[:2]+long(id)+x.bytes[10:])
		}
	}
	for _, id := range noTids {
		wantForm(t, "RTake of no Id", "\x02\x00"+head+long(id))
	}
	for _, kind := range []string{"\x00\x00", "\x0a\x00", "\xff\xff"} {
		wantForm(t, "no Kind", kind+head)
	}
}

// long is the bytes of n.
func long(n int64) string {
	var b []byte
	for range 8 {
		b = append(b, byte(n))
		n >>= 8
	}
	return string(b)
}

// small is the bytes of n.
func small(n int) string { return string([]byte{byte(n), byte(n >> 8)}) }

// wantFixed asks that those bytes are no record's, or just those of the record that they say; true: they are one's.
func wantFixed(t *testing.T, bytes string) bool {
	t.Helper()
	r, err := Decode([]byte(bytes))
	switch err {
	case api.OK:
		if b := Encode(r); string(b) != bytes {
			t.Errorf("P9.1: Decode of %x is %s, whose bytes are %x", bytes, tell(r), b)
		}
	case api.ErrForm:
		if !same(r, api.Record{}) {
			t.Errorf("P0.2: Decode of %x: beside ErrForm %s", bytes, tell(r))
		}
	default:
		t.Errorf("P9.1: Decode of %x: error %d", bytes, err)
	}
	return err == api.OK
}

// Parts that fall, that are none, and more or fewer of them than is said.
func TestDecodeParts(t *testing.T) {
	for _, kind := range []int{6, 8, 9} {
		front := small(kind) + head
		for _, parts := range noParts {
			bytes := front + small(len(parts))
			for _, part := range parts {
				bytes += small(part)
			}
			if slices.ContainsFunc(parts, func(part int) bool { return part < 0 || part > 65535 }) {
				continue
			}
			wantForm(t, "Parts that may not be", bytes)
		}
		for _, n := range []int{2, 3, 7, 8, 255, 256, 257, 65535} {
			wantForm(t, "too few Parts for their count", front+small(n)+"\x03\x00")
			wantForm(t, "no Parts for their count", front+small(n))
		}
		wantForm(t, "more Parts than their count", front+"\x01\x00\x03\x00\x04\x00")
		wantForm(t, "a Part beside a count of none", front+"\x00\x00\x03\x00")
		wantForm(t, "half a Part", front+"\x01\x00\x03")
		for _, n := range []int{8, 9, 256, 65535} {
			wantForm(t, "too many Parts", front+small(n)+strings.Repeat("\x03\x00", n))
		}
		wantForm(t, "8 Parts, rising", front+"\x08\x00\x01\x00\x02\x00\x03\x00\x04\x00\x05\x00\x06\x00\x07\x00\x08\x00")
	}
	wantForm(t, "RColl without Parts", "\x06\x00"+head+"\x00\x00")
	wantForm(t, "RTold without Parts", "\x09\x00"+head+"\x00\x00")
	wantForm(t, "RTold of 2 Parts", "\x09\x00"+head+"\x02\x00\x01\x00\x02\x00")
}

// Puts that may not be, and more or fewer of them than is said.
func TestDecodePuts(t *testing.T) {
	const one = "\x01\x00q\x02\x00xy"
	for _, kind := range []int{4, 7} {
		front := small(kind) + head
		for _, put := range noPuts {
			if len(put.Queue) > 65535 || len(put.Body) > 65535 {
				continue
			}
			bytes := small(len(put.Queue)) + put.Queue + small(len(put.Body)) + put.Body
			wantForm(t, "a Put that may not be", front+"\x01\x00"+bytes)
			wantForm(t, "a Put that may not be, behind one", front+"\x02\x00"+one+bytes)
			wantForm(t, "a Put that may not be, ahead of one", front+"\x02\x00"+bytes+one)
		}
		for _, n := range []int{2, 9, 10, 11, 255, 257, 65535} {
			wantForm(t, "too few Puts for their count", front+small(n)+one)
			wantForm(t, "no Puts for their count", front+small(n))
		}
		wantForm(t, "more Puts than their count", front+"\x01\x00"+one+one)
		wantForm(t, "a Put beside a count of none", front+"\x00\x00"+one)
		wantForm(t, "a Put without its Body", front+"\x01\x00\x01\x00q")
		wantForm(t, "a Body that is too short", front+"\x01\x00\x01\x00q\x03\x00xy")
		wantForm(t, "a Queue that is too short", front+"\x01\x00\x09\x00q\x02\x00xy")
		wantForm(t, "a Queue of all that is left", front+"\x01\x00\x05\x00q\x02\x00xy")
		for _, n := range []int{11, 12, 266, 65535} {
			wantForm(t, "too many Puts", front+small(n)+strings.Repeat(one, n))
			wantForm(t, "too many Puts of nothing", front+small(n)+strings.Repeat("\x00\x00\x00\x00", n))
		}
	}
}

// What another Kind has is not read of one that does not have it.
func TestDecodeOthersFields(t *testing.T) {
	tails := []string{"", head, "\x01", "\x00", "\x01\x00\x03\x00", "\x00\x00", "\x02\x00\x03\x00\x04\x00", "\x01\x00\x01\x00q\x00\x00"}
	fits := map[int][]int{1: {0}, 2: {1}, 3: {0}, 4: {5, 7}, 5: {2, 3}, 6: {4, 6}, 7: {5, 7}, 8: {4, 5, 6}, 9: {4}}
	for kind, which := range fits {
		for k, tail := range tails {
			if bytes := small(kind) + head + tail; !slices.Contains(which, k) {
				wantForm(t, "what its Kind does not have", bytes)
			} else if !wantFixed(t, bytes) {
				t.Errorf("P9.1: Decode of %x: ErrForm", bytes)
			}
		}
	}
}

// Each byte of each record, turned to each other one; of the longest records, to some.
func TestDecodeTurned(t *testing.T) {
	ok, form := 0, 0
	for _, x := range book() {
		step := 1
		if len(x.bytes) > 200 {
			step = 17
		}
		for place := range len(x.bytes) {
			b := []byte(x.bytes)
			for turn := 1; turn <= 255; turn += step {
				b[place] = x.bytes[place] ^ byte(turn)
				if wantFixed(t, string(b)) {
					ok++
				} else {
					form++
				}
			}
		}
	}
	if ok < 1000 || form < 1000 {
		t.Errorf("only %d turned ones were records and %d none", ok, form)
	}
}

func TestDecodeLong(t *testing.T) {
	for _, x := range book() {
		wantForm(t, x.name+", and many bytes", x.bytes+strings.Repeat("\x00", 1<<20))
		wantForm(t, x.name+", and many bytes", x.bytes+strings.Repeat("\xff", 1<<20))
	}
	for _, b := range []string{"\x00", "\x01", "\x04", "\x06", "\xff"} {
		for n := range 100 {
			wantFixed(t, strings.Repeat(b, n))
		}
		wantForm(t, "many bytes", strings.Repeat(b, 1<<20))
	}
}
