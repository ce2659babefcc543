package rec

import (
	"fmt"
	"slices"
	"strings"
	"testing"

	"postillion/api"
)

const base = int64(api.Base)

// tid is an id of broker 3, with a byte beyond 127 in it.
const tid = 3*base + 0xfe0102

// head is the bytes of tid.
const head = "\x02\x01\xfe\x00\x03\x00\x00\x00"

// listed is a record that may be, and its bytes, written by hand.
type listed struct {
	name  string
	r     api.Record
	bytes string
}

// book has records of each Kind, with as few and as many as they may have.
func book() []listed {
	full, wantFull := tenPuts()
	wide, wantWide := strings.Repeat("\xff\x80\x00", 20), "\x3c\x00"+strings.Repeat("\xff\x80\x00", 20)
	two := []api.Put{{Queue: "q", Body: "xy"}, {Queue: "abcdefgh"}}
	wantTwo := "\x02\x00\x01\x00q\x02\x00xy\x08\x00abcdefgh\x00\x00"
	return []listed{
		{"RTx", api.Record{Kind: 1, Tid: tid}, "\x01\x00" + head},
		{"RTx, the least Tid", api.Record{Kind: 1, Tid: base + 1}, "\x01\x00\x01\x00\x00\x00\x01\x00\x00\x00"},
		{"RTx, the greatest Tid", api.Record{Kind: 1, Tid: 9*base - 1}, "\x01\x00\xff\xff\xff\xff\x08\x00\x00\x00"},
		{"RTake", api.Record{Kind: 2, Tid: tid, Id: 8*base + 0x04030201}, "\x02\x00" + head + "\x01\x02\x03\x04\x08\x00\x00\x00"},
		{"RTake, the least Id", api.Record{Kind: 2, Tid: tid, Id: base + 1}, "\x02\x00" + head + "\x01\x00\x00\x00\x01\x00\x00\x00"},
		{"RTake, the greatest Id", api.Record{Kind: 2, Tid: tid, Id: 9*base - 1}, "\x02\x00" + head + "\xff\xff\xff\xff\x08\x00\x00\x00"},
		{"RBack", api.Record{Kind: 3, Tid: tid}, "\x03\x00" + head},
		{"RPrep, no Puts", api.Record{Kind: 4, Tid: tid}, "\x04\x00" + head + "\x00\x00"},
		{"RPrep, a Put, of a letter and no bytes", api.Record{Kind: 4, Tid: tid, Puts: []api.Put{{Queue: "z"}}}, "\x04\x00" + head + "\x01\x00\x01\x00z\x00\x00"},
		{"RPrep, a Put, of 8 letters and 60 bytes", api.Record{Kind: 4, Tid: tid, Puts: []api.Put{{Queue: "zyxwvuts", Body: wide}}}, "\x04\x00" + head + "\x01\x00\x08\x00zyxwvuts" + wantWide},
		{"RPrep, 2 Puts", api.Record{Kind: 4, Tid: tid, Puts: two}, "\x04\x00" + head + wantTwo},
		{"RPrep, 10 Puts", api.Record{Kind: 4, Tid: tid, Puts: full}, "\x04\x00" + head + wantFull},
		{"RDone, Yes", api.Record{Kind: 5, Tid: tid, Yes: true}, "\x05\x00" + head + "\x01"},
		{"RDone, not Yes", api.Record{Kind: 5, Tid: tid}, "\x05\x00" + head + "\x00"},
		{"RColl, a Part", api.Record{Kind: 6, Tid: tid, Parts: []int{8}}, "\x06\x00" + head + "\x01\x00\x08\x00"},
		{"RColl, 2 Parts", api.Record{Kind: 6, Tid: tid, Parts: []int{2, 5}}, "\x06\x00" + head + "\x02\x00\x02\x00\x05\x00"},
		{"RColl, 7 Parts", api.Record{Kind: 6, Tid: tid, Parts: []int{1, 2, 3, 4, 5, 6, 8}}, "\x06\x00" + head + "\x07\x00\x01\x00\x02\x00\x03\x00\x04\x00\x05\x00\x06\x00\x08\x00"},
		{"RYes, no Puts", api.Record{Kind: 7, Tid: tid}, "\x07\x00" + head + "\x00\x00"},
		{"RYes, a Put, of a letter and no bytes", api.Record{Kind: 7, Tid: tid, Puts: []api.Put{{Queue: "a"}}}, "\x07\x00" + head + "\x01\x00\x01\x00a\x00\x00"},
		{"RYes, a Put, of 8 letters and 60 bytes", api.Record{Kind: 7, Tid: tid, Puts: []api.Put{{Queue: "abcdefgh", Body: wide}}}, "\x07\x00" + head + "\x01\x00\x08\x00abcdefgh" + wantWide},
		{"RYes, 2 Puts", api.Record{Kind: 7, Tid: tid, Puts: two}, "\x07\x00" + head + wantTwo},
		{"RYes, 10 Puts", api.Record{Kind: 7, Tid: tid, Puts: full}, "\x07\x00" + head + wantFull},
		{"RNo, no Parts", api.Record{Kind: 8, Tid: tid}, "\x08\x00" + head + "\x00\x00"},
		{"RNo, a Part", api.Record{Kind: 8, Tid: tid, Parts: []int{1}}, "\x08\x00" + head + "\x01\x00\x01\x00"},
		{"RNo, 7 Parts", api.Record{Kind: 8, Tid: tid, Parts: []int{2, 3, 4, 5, 6, 7, 8}}, "\x08\x00" + head + "\x07\x00\x02\x00\x03\x00\x04\x00\x05\x00\x06\x00\x07\x00\x08\x00"},
		{"RTold", api.Record{Kind: 9, Tid: tid, Parts: []int{3}}, "\x09\x00" + head + "\x01\x00\x03\x00"},
	}
}

// tenPuts is as many Puts as may be, of 60 bytes each, and their bytes.
func tenPuts() ([]api.Put, string) {
	var puts []api.Put
	want := "\x0a\x00"
	for _, letter := range "jihgfedcba" {
		queue, body := strings.Repeat(string(letter), 8), strings.Repeat(string(letter)+"\xc3\xff", 20)
		puts = append(puts, api.Put{Queue: queue, Body: body})
		want += "\x08\x00" + queue + "\x3c\x00" + body
	}
	return puts, want
}

func tell(r api.Record) string { return fmt.Sprintf("%+v", r) }

// same tells whether a and b are, without asking the program.
func same(a, b api.Record) bool {
	return a.Kind == b.Kind && a.Tid == b.Tid && a.Id == b.Id && a.Yes == b.Yes && slices.Equal(a.Parts, b.Parts) && slices.Equal(a.Puts, b.Puts)
}

// wantRecord asks that the bytes of r are those, and that r is what they say.
func wantRecord(t *testing.T, name string, r api.Record, bytes string) {
	t.Helper()
	if b := Encode(r); string(b) != bytes {
		t.Errorf("P9.1: %s: Encode %x, want %x", name, b, bytes)
	}
	if got, err := Decode([]byte(bytes)); err != api.OK || !same(got, r) {
		t.Errorf("P9.1: %s: Decode of %x: %s, %d, want %s", name, bytes, tell(got), err, tell(r))
	}
}

// wantNil asks that r has no bytes.
func wantNil(t *testing.T, r api.Record) {
	t.Helper()
	if b := Encode(r); b != nil {
		t.Errorf("P9.1: Encode(%.200s) %.100x, want nil", tell(r), b)
	}
}

// wantForm asks that no record has those bytes.
func wantForm(t *testing.T, name, bytes string) {
	t.Helper()
	got, err := Decode([]byte(bytes))
	if err != api.ErrForm {
		t.Errorf("P9.1: %s: Decode of %.100x: error %d, want ErrForm", name, bytes, err)
	}
	if !same(got, api.Record{}) {
		t.Errorf("P0.2: %s: Decode of %.100x: beside ErrForm %s, want the zero record", name, bytes, tell(got))
	}
}

func TestBook(t *testing.T) {
	kinds := map[int]bool{}
	for _, x := range book() {
		wantRecord(t, x.name, x.r, x.bytes)
		kinds[x.r.Kind] = true
	}
	if len(kinds) != 9 {
		t.Errorf("the book has records of %d Kinds", len(kinds))
	}
}

// Empty lists have the bytes of nil ones.
func TestEmptyLists(t *testing.T) {
	for _, x := range book() {
		if len(x.r.Parts) == 0 {
			x.r.Parts = []int{}
		}
		if len(x.r.Puts) == 0 {
			x.r.Puts = []api.Put{}
		}
		if b := Encode(x.r); string(b) != x.bytes {
			t.Errorf("P0.4: %s, with empty lists: Encode %x, want %x", x.name, b, x.bytes)
		}
	}
}

// Each byte in a Body, and each letter in a Queue, at each place.
func TestTexts(t *testing.T) {
	for _, kind := range []int{4, 7} {
		front := string([]byte{byte(kind), 0}) + head + "\x01\x00"
		for b := range 256 {
			body := strings.Repeat("m", b%60) + string([]byte{byte(b)}) + strings.Repeat("n", 59-b%60)
			wantRecord(t, "a Body of each byte", api.Record{Kind: kind, Tid: tid, Puts: []api.Put{{Queue: "q", Body: body}}}, front+"\x01\x00q\x3c\x00"+body)
		}
		for n := 1; n <= 8; n++ {
			for letter := byte('a'); letter <= 'z'; letter++ {
				queue := strings.Repeat("k", n-1) + string([]byte{letter})
				wantRecord(t, "a Queue of each letter", api.Record{Kind: kind, Tid: tid, Puts: []api.Put{{Queue: queue}}}, front+string([]byte{byte(n), 0})+queue+"\x00\x00")
			}
		}
		for n := range 61 {
			body := strings.Repeat("\xfe", n)
			wantRecord(t, "a Body of each length", api.Record{Kind: kind, Tid: tid, Puts: []api.Put{{Queue: "q", Body: body}}}, front+"\x01\x00q"+string([]byte{byte(n), 0})+body)
		}
	}
}

// Alike Puts, and Puts of one queue in any order: they stay as many and as they stood.
func TestAlikePuts(t *testing.T) {
	puts := []api.Put{{Queue: "b", Body: "2"}, {Queue: "b", Body: "1"}, {Queue: "b", Body: "2"}, {Queue: "a", Body: "2"}}
	bytes := "\x04\x00\x01\x00b\x01\x002\x01\x00b\x01\x001\x01\x00b\x01\x002\x01\x00a\x01\x002"
	wantRecord(t, "alike Puts", api.Record{Kind: 4, Tid: tid, Puts: puts}, "\x04\x00"+head+bytes)
	wantRecord(t, "alike Puts", api.Record{Kind: 7, Tid: tid, Puts: puts}, "\x07\x00"+head+bytes)
}

// Each list of Parts that may be.
func TestEachParts(t *testing.T) {
	for set := range 256 {
		var parts []int
		bytes := ""
		for broker := 1; broker <= 8; broker++ {
			if set>>(broker-1)&1 == 1 {
				parts = append(parts, broker)
				bytes += string([]byte{byte(broker), 0})
			}
		}
		bytes = head + string([]byte{byte(len(parts)), 0}) + bytes
		most := map[int]int{6: 7, 8: 7, 9: 1}
		least := map[int]int{6: 1, 8: 0, 9: 1}
		for _, kind := range []int{6, 8, 9} {
			r, bytes := api.Record{Kind: kind, Tid: tid, Parts: parts}, string([]byte{byte(kind), 0})+bytes
			if len(parts) >= least[kind] && len(parts) <= most[kind] {
				wantRecord(t, "each list of Parts", r, bytes)
			} else {
				wantNil(t, r)
				wantForm(t, "each list of Parts", bytes)
			}
		}
	}
}

// None of the records that may be is longer than a log's text may be.
func TestLongest(t *testing.T) {
	for _, x := range book() {
		if n := len(Encode(x.r)); n < 1 || n > api.MaxRecord {
			t.Errorf("P9.1: %s: %d bytes", x.name, n)
		}
	}
}
