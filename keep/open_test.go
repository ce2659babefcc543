package keep

import (
	"fmt"
	"math"
	"slices"
	"testing"

	"postillion/api"
	"postillion/file"
	"postillion/rec"
	"postillion/seg"
	"postillion/store"
)

// logged is a disk with a log of those texts, laid by seg alone, from that segment on.
func logged(t *testing.T, from int, texts ...[]byte) *file.Disk {
	t.Helper()
	d := file.New(api.MaxFile)
	l, err := seg.Open(d, from)
	must(t, err)
	for _, b := range texts {
		must(t, l.Add(b))
	}
	must(t, l.Force())
	return d
}

// texts are the bytes of those records.
func texts(records ...api.Record) [][]byte {
	var all [][]byte
	for _, r := range records {
		all = append(all, rec.Encode(r))
	}
	return all
}

// with is a disk that has that file, too, for sure.
func with(t *testing.T, d *file.Disk, name string, b []byte) *file.Disk {
	t.Helper()
	must(t, d.Append(name, b), d.Sync(name))
	return d
}

// without is a copy of a disk, of which all is sure, that has not got that file.
func without(t *testing.T, d *file.Disk, name string) *file.Disk {
	t.Helper()
	c := d.Fall(0)
	must(t, c.Delete(name))
	return c
}

// frames is how many whole ones b has, one behind the other.
func frames(b []byte) int {
	n := 0
	for {
		_, k, err := seg.Cut(b)
		if err != api.OK {
			return n
		}
		b = b[k:]
		n++
	}
}

func TestOpenEmpty(t *testing.T) {
	for broker := 1; broker <= 8; broker++ {
		for _, room := range []int{0, 1, 1000, api.MaxFile} {
			what := fmt.Sprintf("P12.1: Open for %d of an empty disk of %d bytes", broker, room)
			d := file.New(room)
			for range 2 {
				k := mustOpen(t, d, broker)
				wantState(t, what, k, store.New(broker))
				wantBad(t, what, k, false)
				wantErr(t, what+": Force", k.Force(), api.OK)
			}
		}
	}
}

func TestOpenForNoBroker(t *testing.T) {
	packed := file.New(1000)
	must(t, mustOpen(t, packed, 1).Pack())
	spoilt := with(t, file.New(1000), "state", []byte("spoilt"))
	for _, broker := range []int{0, 9, -1, 10, -8, 256, 257, 65537, 1<<32 + 1, 1 << 62, math.MinInt, math.MinInt + 1, math.MaxInt} {
		wantNoOpen(t, "no broker", file.New(100), broker, api.ErrForm)
		wantNoOpen(t, "no broker, a state of another", packed, broker, api.ErrForm)
		wantNoOpen(t, "ErrForm ahead of ErrCorrupt", spoilt, broker, api.ErrForm)
		wantNoOpen(t, "ErrForm ahead of ErrDown", nil, broker, api.ErrForm)
	}
}

func TestOpenOfNoDisk(t *testing.T) {
	for broker := 1; broker <= 8; broker++ {
		wantNoOpen(t, "no disk", nil, broker, api.ErrDown)
	}
	wantNoOpen(t, "a disk without room, and an empty state", with(t, new(file.Disk), "state", nil), 1, api.ErrCorrupt)
	wantState(t, "P12.1: a disk that New did not make", mustOpen(t, new(file.Disk), 1), store.New(1))
}

// The records of a log alone, in order, from the segment 0 on.
func TestOpenOfLog(t *testing.T) {
	all := states(t, 1, life())
	for n, want := range all {
		d := logged(t, 0, texts(life()[:n]...)...)
		wantState(t, fmt.Sprintf("P12.1: a log of %d records", n), mustOpen(t, d, 1), given(want))
	}
	var long []api.Record
	for n := range int64(30) {
		long = append(long, yes(id(2, n+1), bulk(2)...), prep(id(3, n+1), bulk(4)...), done(id(3, n+1), false))
	}
	d := logged(t, 0, texts(long...)...)
	if n := len(d.Names()); n < 4 {
		t.Fatalf("%d segments are too few for this test", n)
	}
	wantState(t, "P12.1: a log of several segments", mustOpen(t, d, 2), behind(t, store.New(2), long...))
}

// The state of the file, and the records of the segments from its number on; what stands in elder ones is nothing to it.
func TestOpenOfStateAndLog(t *testing.T) {
	all := states(t, 1, life())
	for _, from := range []int{0, 1, 7, 998, 999} {
		for n, s := range all {
			d := logged(t, from, texts(life()[n:]...)...)
			with(t, d, "state", encode(s, from))
			what := fmt.Sprintf("P12.1: a state behind %d records, and segments from %d on", n, from)
			wantState(t, what, mustOpen(t, d, 1), given(all[len(all)-1]))
			if from > 0 {
				d = logged(t, 0, texts(life()[:n]...)...)
				with(t, d, "state", encode(s, from))
				wantState(t, what+", and elder ones", mustOpen(t, d, 1), given(s))
			}
		}
	}
}

func TestOpenDropsNext(t *testing.T) {
	all := states(t, 1, life())
	for _, next := range [][]byte{nil, []byte("n"), []byte("half of a state"), encode(store.New(1), 0), encode(all[9], 0), encode(all[9], 1), encode(store.New(2), 0), make([]byte, 5000)} {
		d := with(t, file.New(api.MaxFile), "next", next)
		wantState(t, "P12.1: next alone", mustOpen(t, d, 1), store.New(1))
		wantNoNext(t, d)

		d = with(t, logged(t, 0, texts(life()[:4]...)...), "next", next)
		wantState(t, "P12.1: next and a log", mustOpen(t, d, 1), all[4])
		wantNoNext(t, d)

		d = with(t, logged(t, 3, texts(life()[4])...), "next", next)
		with(t, d, "state", encode(all[4], 3))
		wantState(t, "P12.1: next, a state and a log", mustOpen(t, d, 1), given(all[5]))
		wantNoNext(t, d)

		d = with(t, file.New(len(next)), "next", next)
		wantState(t, "P12.1: next has all the room", mustOpen(t, d, 1), store.New(1))
		wantNoNext(t, d)
	}
}

func wantNoNext(t *testing.T, d *file.Disk) {
	t.Helper()
	if b, is := d.Read("next"); is {
		t.Errorf("P12.1: next stands behind Open: %q", b)
	}
	if _, is := d.Fall(9999).Read("next"); is {
		t.Errorf("P12.1: next stands behind Open, and a fall")
	}
}

// Whatever is turned in the file, or missing, or too much.
func TestOpenOfSpoiltState(t *testing.T) {
	for _, s := range []api.State{store.New(1), behind(t, store.New(1), life()...)} {
		b := encode(s, 2)
		for n := range b {
			for bit := range 8 {
				turned := slices.Clone(b)
				turned[n] ^= 1 << bit
				wantNoOpen(t, fmt.Sprintf("bit %d of byte %d of the state", bit, n), with(t, file.New(api.MaxFile), "state", turned), 1, api.ErrCorrupt)
			}
			wantNoOpen(t, fmt.Sprintf("%d bytes of the state", n), with(t, file.New(api.MaxFile), "state", b[:n]), 1, api.ErrCorrupt)
			zeros := slices.Concat(b[:n], make([]byte, len(b)-n))
			if !slices.Equal(zeros, b) {
				wantNoOpen(t, fmt.Sprintf("noughts from byte %d of the state on", n), with(t, file.New(api.MaxFile), "state", zeros), 1, api.ErrCorrupt)
			}
		}
		for _, more := range [][]byte{{0}, {1}, b, make([]byte, 100)} {
			wantNoOpen(t, "bytes behind the state", with(t, file.New(api.MaxFile), "state", slices.Concat(b, more)), 1, api.ErrCorrupt)
			wantNoOpen(t, "bytes ahead of the state", with(t, file.New(api.MaxFile), "state", slices.Concat(more, b)), 1, api.ErrCorrupt)
		}
		d := with(t, logged(t, 2, texts(life()...)...), "state", []byte{})
		wantNoOpen(t, "an empty state, and a log", d, 1, api.ErrCorrupt)
		wantNoOpen(t, "noughts alone", with(t, file.New(api.MaxFile), "state", make([]byte, len(b))), 1, api.ErrCorrupt)
	}
}

// A state of which the sum is right, but that may not be, or goes on behind a segment that may not be.
func TestOpenOfStateThatMayNotBe(t *testing.T) {
	s := behind(t, store.New(1), life()...)
	for _, from := range []int{1000, 1001, 32768, 65535} {
		wantNoOpen(t, fmt.Sprintf("the segment %d", from), with(t, file.New(api.MaxFile), "state", encode(s, from)), 1, api.ErrCorrupt)
	}
	s.Tx = 201
	wantNoOpen(t, "a state that may not be", with(t, file.New(api.MaxFile), "state", encode(s, 0)), 1, api.ErrCorrupt)
	wantNoOpen(t, "no state", with(t, file.New(api.MaxFile), "state", encode(api.State{}, 0)), 1, api.ErrCorrupt)
}

func TestOpenOfAnotherBrokersState(t *testing.T) {
	for broker := 1; broker <= 8; broker++ {
		d := file.New(1000)
		k := mustOpen(t, d, broker)
		must(t, k.Pack())
		for other := 1; other <= 8; other++ {
			if other != broker {
				wantNoOpen(t, fmt.Sprintf("a state of %d", broker), d, other, api.ErrCorrupt)
			}
		}
		wantState(t, "P12.1: its own state", mustOpen(t, d, broker), store.New(broker))
	}
}

func TestOpenOfAnotherBrokersLog(t *testing.T) {
	for broker := 1; broker <= 8; broker++ {
		d := file.New(1000)
		must(t, mustOpen(t, d, broker).Write(tx(broker, 1), true))
		for other := 1; other <= 8; other++ {
			if other != broker {
				wantNoOpen(t, fmt.Sprintf("a log of %d", broker), d, other, api.ErrCorrupt)
			}
		}
	}
}

// In an elder segment nothing may be turned; in the last one what is turned may look like a torn tail, with which all goes that stands behind it.
func TestOpenOfSpoiltLog(t *testing.T) {
	records := []api.Record{tx(1, 1), yes(id(1, 11), bulk(10)...), yes(id(1, 12), bulk(10)...), yes(id(1, 13), bulk(10)...), tx(1, 2), tx(1, 3)}
	all := states(t, 1, records)
	d := logged(t, 0, texts(records...)...)
	elder, _ := d.Read("log000")
	last, _ := d.Read("log001")
	if len(last) > 40 || len(d.Names()) != 2 {
		t.Fatalf("the log is not as this test needs it: %q", lies(d))
	}
	for n := range elder {
		turned := slices.Clone(elder)
		turned[n] ^= 1 << (n % 8)
		wantNoOpen(t, fmt.Sprintf("byte %d of an elder segment", n), with(t, without(t, d, "log000"), "log000", turned), 1, api.ErrCorrupt)
		if n > 0 && frames(elder[:n]) == frames(elder[:n-1]) {
			wantNoOpen(t, fmt.Sprintf("%d bytes of an elder segment", n), with(t, without(t, d, "log000"), "log000", elder[:n]), 1, api.ErrCorrupt)
		}
	}
	for n := range last {
		for bit := range 8 {
			turned := slices.Clone(last)
			turned[n] ^= 1 << bit
			k, err := Open(with(t, without(t, d, "log001"), "log001", turned), 1)
			stands := 4 + n/(len(last)/2)
			if err != api.ErrCorrupt && (err != api.OK || !store.Eq(k.State(), all[stands])) {
				t.Errorf("P12.1: bit %d of byte %d of the last segment: error %d", bit, n, err)
			}
		}
		k, err := Open(with(t, without(t, d, "log001"), "log001", last[:n]), 1)
		if stands := 4 + n/(len(last)/2); err != api.OK || !store.Eq(k.State(), all[stands]) {
			t.Errorf("P12.1: %d bytes of the last segment: error %d", n, err)
		}
	}
	wantNoOpen(t, "an elder segment is missing", without(t, d, "log000"), 1, api.ErrCorrupt)
}

// Frames that are whole, but have no record's bytes, wherever they stand.
func TestOpenOfNoRecords(t *testing.T) {
	good := texts(life()...)
	for _, b := range [][]byte{{0}, {1}, []byte("none"), make([]byte, 4000), good[3][:len(good[3])-1], append(slices.Clone(good[0]), 0)} {
		for n := range len(good) + 1 {
			wantNoOpen(t, fmt.Sprintf("%x ahead of record %d", b, n), logged(t, 0, slices.Insert(slices.Clone(good), n, b)...), 1, api.ErrCorrupt)
		}
	}
}

// Records that can't be where they stand, for each of the reasons that there are.
func TestOpenOfRecordThatCantBe(t *testing.T) {
	s := behind(t, store.New(1), life()...)
	for _, wrong := range []struct {
		r   api.Record
		err api.Errno
	}{
		{back(id(1, 1)), api.ErrOver}, {tx(1, 1), api.ErrOver},
		{take(id(7, 1), id(1, 99)), api.ErrNone}, {done(id(7, 1), true), api.ErrNone}, {told(id(1, 40), 5), api.ErrNone},
		{tx(1, 5), api.ErrOther}, {tx(2, 4), api.ErrOther}, {prep(id(1, 7)), api.ErrOther}, {coll(id(1, 7), 1), api.ErrOther}, {yes(id(2, 7)), api.ErrOther}, {back(id(4, 1)), api.ErrOther},
		{take(id(7, 1), id(1, 4)), api.ErrBusy}, {take(id(4, 1), id(1, 1)), api.ErrBusy},
	} {
		wantErr(t, "the record that can't be", store.Can(s, wrong.r), wrong.err)
		what := fmt.Sprintf("%+v, which can't be", wrong.r)
		wantNoOpen(t, what, logged(t, 0, texts(append(life(), wrong.r)...)...), 1, api.ErrCorrupt)
		wantNoOpen(t, what+", and others behind it", logged(t, 0, texts(append(life(), wrong.r, tx(1, 4))...)...), 1, api.ErrCorrupt)
		d := with(t, logged(t, 5, texts(wrong.r)...), "state", encode(s, 5))
		wantNoOpen(t, what+", behind a state", d, 1, api.ErrCorrupt)
	}
	for n := range life() {
		if life()[n].Kind != api.RTake {
			wantNoOpen(t, fmt.Sprintf("record %d twice", n), logged(t, 0, texts(slices.Insert(life(), n, life()[n])...)...), 1, api.ErrCorrupt)
		}
	}
	wantNoOpen(t, "the records of an elder log anew", with(t, logged(t, 0, texts(life()...)...), "state", encode(s, 0)), 1, api.ErrCorrupt)

	full := []api.Record{}
	for n := range int64(200) {
		full = append(full, tx(1, n+1))
	}
	wantState(t, "P12.1: 200 began", mustOpen(t, logged(t, 0, texts(full...)...), 1), behind(t, store.New(1), full...))
	wantNoOpen(t, "one more than may begin", logged(t, 0, texts(append(full, tx(1, 201))...)...), 1, api.ErrCorrupt)
}
