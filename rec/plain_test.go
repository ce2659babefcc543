package rec

import (
	"encoding/binary"
	"slices"
	"strings"
	"testing"

	"postillion/api"
)

// plainBytes is the bytes of r by another way, whether or not it may be: so that those that no record has can be tried as well.
func plainBytes(r api.Record) string {
	b := binary.LittleEndian.AppendUint16(nil, uint16(r.Kind))
	b = binary.LittleEndian.AppendUint64(b, uint64(r.Tid))
	switch r.Kind {
	case 2:
		b = binary.LittleEndian.AppendUint64(b, uint64(r.Id))
	case 5:
		b = append(b, map[bool]byte{true: 1}[r.Yes])
	case 6, 8, 9:
		b = binary.LittleEndian.AppendUint16(b, uint16(len(r.Parts)))
		for _, part := range r.Parts {
			b = binary.LittleEndian.AppendUint16(b, uint16(part))
		}
	case 4, 7:
		b = binary.LittleEndian.AppendUint16(b, uint16(len(r.Puts)))
		for _, put := range r.Puts {
			b = binary.LittleEndian.AppendUint16(b, uint16(len(put.Queue)))
			b = append(b, put.Queue...)
			b = binary.LittleEndian.AppendUint16(b, uint16(len(put.Body)))
			b = append(b, put.Body...)
		}
	}
	return string(b)
}

func plainTid(id int64) bool { return id > base && id < 9*base && id%base != 0 }

// plainMay says, more plainly than the program, whether r may be.
func plainMay(r api.Record) bool {
	least := [10]int{6: 1, 9: 1}
	most := [10]int{6: 7, 8: 7, 9: 1}
	mostPuts := [10]int{4: 10, 7: 10}
	if r.Kind < 1 || r.Kind > 9 || !plainTid(r.Tid) || r.Yes && r.Kind != 5 {
		return false
	}
	if r.Kind == 2 && !plainTid(r.Id) || r.Kind != 2 && r.Id != 0 {
		return false
	}
	if len(r.Parts) < least[r.Kind] || len(r.Parts) > most[r.Kind] || len(r.Puts) > mostPuts[r.Kind] {
		return false
	}
	for k, part := range r.Parts {
		if part < 1 || part > 8 || k > 0 && part <= r.Parts[k-1] {
			return false
		}
	}
	return !slices.ContainsFunc(r.Puts, func(p api.Put) bool {
		return p.Queue == "" || len(p.Queue) > 8 || len(p.Body) > 60 || strings.Trim(p.Queue, "abcdefghijklmnopqrstuvwxyz") != ""
	})
}

// plainRead is the record that those bytes say, by another way; false: they say none, or one that may not be.
func plainRead(b string) (api.Record, bool) {
	ok := true
	next := func(n int) string {
		if n > len(b) {
			ok, b = false, ""
			return strings.Repeat("\x00", n)
		}
		s := b[:n]
		b = b[n:]
		return s
	}
	small := func() int { return int(binary.LittleEndian.Uint16([]byte(next(2)))) }
	id := func() int64 { return int64(binary.LittleEndian.Uint64([]byte(next(8)))) }
	r := api.Record{Kind: small()}
	r.Tid = id()
	switch r.Kind {
	case 2:
		r.Id = id()
	case 5:
		truth := next(1)[0]
		r.Yes, ok = truth == 1, ok && truth <= 1
	case 6, 8, 9:
		for range small() {
			r.Parts = append(r.Parts, small())
		}
	case 4, 7:
		for range small() {
			queue := next(small())
			r.Puts = append(r.Puts, api.Put{Queue: queue, Body: next(small())})
		}
	}
	if !ok || b != "" || !plainMay(r) {
		return api.Record{}, false
	}
	return r, true
}

// wantPlain asks that Decode of those bytes is what plainRead says; true: they are a record's.
func wantPlain(t *testing.T, bytes string) bool {
	t.Helper()
	want, is := plainRead(bytes)
	got, err := Decode([]byte(bytes))
	if !same(got, want) || is != (err == api.OK) || !is && err != api.ErrForm {
		t.Errorf("P9.1: Decode of %x: %s, %d, want %s, %v", bytes, tell(got), err, tell(want), is)
	}
	if is && string(Encode(got)) != bytes {
		t.Errorf("P9.1: Decode of %x is %s, whose bytes are %x", bytes, tell(got), Encode(got))
	}
	return is
}

type dice uint64

func (d *dice) throw(sides int) int {
	*d = *d*6364136223846793005 + 1442695040888963407
	return int(uint64(*d) >> 33 % uint64(sides))
}

// id is mostly one.
func (d *dice) id() int64 {
	if d.throw(12) == 0 {
		return noTids[d.throw(len(noTids))]
	}
	return int64(1+d.throw(8))*base + 1 + int64(d.throw(1<<31))
}

func (d *dice) text(letters string, n int) string {
	b := make([]byte, n)
	for k := range b {
		b[k] = letters[d.throw(len(letters))]
	}
	return string(b)
}

func (d *dice) parts() []int {
	var parts []int
	for part := 1; part <= 8; part++ {
		if d.throw(3) == 0 {
			parts = append(parts, part)
		}
	}
	if d.throw(8) == 0 {
		parts = append(parts, d.throw(11))
	}
	return parts
}

func (d *dice) puts() []api.Put {
	var puts []api.Put
	for range d.throw(4) * d.throw(5) {
		put := api.Put{Queue: d.text("abcxyz", 1+d.throw(8)), Body: d.text("\x00\x01a\x7f\x80\xc3\xff", d.throw(61))}
		if d.throw(60) == 0 {
			put = noPuts[d.throw(8)]
		}
		puts = append(puts, put)
	}
	return puts
}

// thrown is a record that has what its Kind has, and seldom more.
func (d *dice) thrown() api.Record {
	r := api.Record{Kind: d.throw(9) + 1, Tid: d.id()}
	if d.throw(20) == 0 {
		r.Kind = noKinds[d.throw(len(noKinds))]
	}
	switch r.Kind {
	case 2:
		r.Id = d.id()
	case 5:
		r.Yes = d.throw(2) == 0
	case 6, 8, 9:
		if r.Parts = d.parts(); r.Kind == 9 && d.throw(6) > 0 {
			r.Parts = []int{1 + d.throw(8)}
		}
	case 4, 7:
		r.Puts = d.puts()
	}
	switch d.throw(60) {
	case 0:
		r.Id = d.id()
	case 1:
		r.Yes = true
	case 2:
		r.Parts = d.parts()
	case 3:
		r.Puts = d.puts()
	}
	return r
}

// turned is those bytes, a little worse.
func (d *dice) turned(bytes string) string {
	b := []byte(bytes)
	for range 1 + d.throw(2) {
		at := d.throw(len(b) + 1)
		switch d.throw(4) {
		case 0:
			b = b[:at]
		case 1:
			b = slices.Insert(b, at, byte(d.throw(256)))
		case 2:
			b = slices.Delete(b, at, min(at+1+d.throw(3), len(b)))
		case 3:
			if at < len(b) {
				b[at] ^= 1 << d.throw(8)
			}
		}
	}
	return string(b)
}

func TestStepByStep(t *testing.T) {
	d := dice(9)
	var may, mayNot [10]int
	good, bad := 0, 0
	for range 20000 {
		r := d.thrown()
		bytes := plainBytes(r)
		wantPlain(t, bytes)
		if wantPlain(t, d.turned(bytes)) {
			good++
		} else {
			bad++
		}
		kind := r.Kind
		if kind < 1 || kind > 9 {
			kind = 0
		}
		if plainMay(r) {
			may[kind]++
			wantRecord(t, "a thrown one", r, bytes)
		} else {
			mayNot[kind]++
			wantNil(t, r)
		}
	}
	for kind := 1; kind <= 9; kind++ {
		if may[kind] < 500 || mayNot[kind] < 50 {
			t.Errorf("of Kind %d only %d that may be and %d that may not were asked about", kind, may[kind], mayNot[kind])
		}
	}
	if mayNot[0] < 500 || good < 500 || bad < 5000 {
		t.Errorf("only %d of no Kind, %d turned that are good, %d that are not", mayNot[0], good, bad)
	}
}

// Pairs of thrown records, which are the same just where the one's bytes are the other's.
func TestEqStepByStep(t *testing.T) {
	d := dice(19)
	alike, unlike := 0, 0
	for range 20000 {
		a, b := d.thrown(), d.thrown()
		if d.throw(2) == 0 {
			b = api.Record{Kind: a.Kind, Tid: a.Tid, Id: a.Id, Yes: a.Yes, Parts: slices.Clone(a.Parts), Puts: slices.Clone(a.Puts)}
		}
		if !plainMay(a) || !plainMay(b) {
			continue
		}
		is := plainBytes(a) == plainBytes(b)
		wantEq(t, a, b, is)
		if is {
			alike++
		} else {
			unlike++
		}
	}
	if alike < 1000 || unlike < 1000 {
		t.Errorf("only %d alike and %d unlike pairs", alike, unlike)
	}
}

func FuzzDecode(f *testing.F) {
	for _, x := range book() {
		f.Add([]byte(x.bytes))
		f.Add([]byte(x.bytes[:len(x.bytes)-1]))
		f.Add([]byte(x.bytes + "\x00"))
	}
	f.Fuzz(func(t *testing.T, b []byte) { wantPlain(t, string(b)) })
}
