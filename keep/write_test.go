package keep

import (
	"fmt"
	"math"
	"testing"

	"postillion/api"
	"postillion/file"
	"postillion/rec"
	"postillion/seg"
	"postillion/store"
)

// Each record is of the state at once, whether or not it was forced.
func TestWrite(t *testing.T) {
	all := states(t, 1, life())
	for _, force := range []bool{false, true} {
		d := file.New(api.MaxFile)
		k := mustOpen(t, d, 1)
		for n, r := range life() {
			what := fmt.Sprintf("P12.2: Write of record %d, forced %v", n, force)
			wantErr(t, what, k.Write(r, force), api.OK)
			wantState(t, what, k, all[n+1])
			wantBad(t, what, k, false)
			if force {
				wantLasts(t, what, d, all[n+1])
			} else {
				wantLasts(t, what, d, all[0])
			}
			wantState(t, what+": behind a fall by which nothing is lost", mustOpen(t, unharmed(d), 1), given(all[n+1]))
		}
	}
}

// The log has the records as they were written.
func TestWriteIsInTheLog(t *testing.T) {
	d := file.New(api.MaxFile)
	k := mustOpen(t, d, 1)
	mustWrite(t, k, life()...)
	l, err := seg.Open(unharmed(d), 0)
	must(t, err)
	if got := l.All(); len(got) != len(life()) {
		t.Fatalf("P12.2: the log has %d records", len(got))
	}
	for n, b := range l.All() {
		if r, err := rec.Decode(b); err != api.OK || !rec.Eq(r, life()[n]) {
			t.Errorf("P12.2: record %d of the log is %+v, error %d", n, r, err)
		}
	}
}

// All that was written ahead of what is forced lasts with it; what is written behind it need not.
func TestForcedWriteForcesAll(t *testing.T) {
	all := states(t, 1, life())
	for forced := range life() {
		d := file.New(api.MaxFile)
		k := mustOpen(t, d, 1)
		for n, r := range life() {
			must(t, k.Write(r, n == forced))
			if n < forced {
				wantLasts(t, "P12.2: nothing was forced", d, all[0])
			} else {
				wantLasts(t, fmt.Sprintf("P12.2: record %d was forced, behind %d", forced, n), d, all[forced+1])
			}
		}
	}
}

func TestForce(t *testing.T) {
	all := states(t, 1, life())
	for forced := range len(life()) + 1 {
		d := file.New(api.MaxFile)
		k := mustOpen(t, d, 1)
		mustWrite(t, k, life()[:forced]...)
		for range 2 {
			wantErr(t, "P12.2: Force", k.Force(), api.OK)
			wantState(t, "P12.2: Force", k, all[forced])
			wantBad(t, "P12.2: Force", k, false)
			wantLasts(t, fmt.Sprintf("P12.2: Force behind %d records", forced), d, all[forced])
		}
		mustWrite(t, k, life()[forced:]...)
		wantLasts(t, fmt.Sprintf("P12.2: Force behind %d records, and Writes", forced), d, all[forced])
	}
}

// A chain through several segments, of which the elder ones are sure.
func TestWriteThroughSegments(t *testing.T) {
	d := file.New(api.MaxFile)
	k := mustOpen(t, d, 3)
	s := store.New(3)
	for n := range int64(40) {
		for _, r := range []api.Record{prep(id(1, n+1), bulk(10)...), done(id(1, n+1), false)} {
			mustWrite(t, k, r)
			s = behind(t, s, r)
		}
		wantState(t, "P12.2: through segments", k, s)
		c := mustOpen(t, d.Fall(0), 3).State()
		if sure := int64(len(c.Ends)); sure < n-3 || sure > n+1 {
			t.Errorf("P12.2: behind %d that ended %d last", n+1, sure)
		}
	}
	if n := len(d.Names()); n < 10 {
		t.Errorf("P12.2: %d segments", n)
	}
	must(t, k.Force())
	wantLasts(t, "P12.2: Force of several segments", d, s)
}

// A record that can't be changes nothing, on the disk neither, and what is written behind it goes well.
func TestWriteOfWhatCantBe(t *testing.T) {
	d := file.New(api.MaxFile)
	k := mustOpen(t, d, 1)
	mustWrite(t, k, life()...)
	s, was := k.State(), whole(d)
	for _, x := range []struct {
		r    api.Record
		want api.Errno
	}{
		{api.Record{}, api.ErrForm}, {api.Record{Kind: 10, Tid: id(1, 1)}, api.ErrForm}, {api.Record{Kind: -1, Tid: id(1, 1)}, api.ErrForm},
		{tx(0, 4), api.ErrForm}, {tx(9, 4), api.ErrForm}, {tx(1, 0), api.ErrForm}, {api.Record{Kind: api.RTx, Tid: math.MinInt64}, api.ErrForm},
		{take(id(2, 9), 0), api.ErrForm}, {take(id(2, 9), -1), api.ErrForm}, {coll(id(1, 9)), api.ErrForm}, {coll(id(1, 9), 3, 2), api.ErrForm}, {no(id(1, 9), 1, 2, 3, 4, 5, 6, 7, 8), api.ErrForm},
		{yes(id(1, 9), put("Q", "")), api.ErrForm}, {yes(id(1, 9), bulk(11)...), api.ErrForm}, {api.Record{Kind: api.RBack, Tid: id(2, 9), Yes: true}, api.ErrForm},
		{back(id(2, 1)), api.ErrOver}, {done(id(3, 1), true), api.ErrOver}, {yes(id(1, 40)), api.ErrOver},
		{take(id(2, 9), id(1, 99)), api.ErrNone}, {take(id(2, 9), id(2, 1)), api.ErrNone}, {done(id(2, 9), true), api.ErrNone}, {told(id(1, 40), 5), api.ErrNone},
		{tx(1, 5), api.ErrOther}, {tx(2, 4), api.ErrOther}, {prep(id(4, 1)), api.ErrOther}, {prep(id(1, 9)), api.ErrOther}, {coll(id(1, 2), 2), api.ErrOther}, {coll(id(1, 9), 1, 2), api.ErrOther}, {yes(id(2, 9)), api.ErrOther}, {no(id(2, 9)), api.ErrOther}, {back(id(4, 1)), api.ErrOther}, {back(id(1, 2)), api.ErrOther},
		{take(id(2, 9), id(1, 2)), api.ErrBusy}, {take(id(4, 1), id(1, 1)), api.ErrBusy}, {take(id(1, 2), id(1, 1)), api.ErrBusy},
	} {
		for _, force := range []bool{false, true} {
			what := fmt.Sprintf("P12.2: Write of %+v, forced %v", x.r, force)
			wantErr(t, what+": store.Can", store.Can(s, x.r), x.want)
			wantErr(t, what, k.Write(x.r, force), x.want)
			wantState(t, what, k, s)
			wantBad(t, what, k, false)
			wantWhole(t, what, d, was)
		}
	}
	wantErr(t, "P12.2: Write behind what can't be", k.Write(tx(1, 4), true), api.OK)
	wantLasts(t, "P12.2: Write behind what can't be", d, behind(t, s, tx(1, 4)))
}

// What has no room in the state is told so, and does not make the Keep Bad; the 200 that began last.
func TestWriteOfTooMany(t *testing.T) {
	d := file.New(api.MaxFile)
	k := mustOpen(t, d, 1)
	for n := range int64(200) {
		mustWrite(t, k, tx(1, n+1))
	}
	s, was := k.State(), whole(d)
	wantErr(t, "P12.2: Write of the 201st that begins", k.Write(tx(1, 201), true), api.ErrFull)
	wantState(t, "P12.2: Write of too many", k, s)
	wantBad(t, "P12.2: Write of too many", k, false)
	wantWhole(t, "P12.2: Write of too many", d, was)
	must(t, k.Force())
	wantLasts(t, "P12.2: Write of too many", d, s)
}

// On disks of all sizes: the first record for which there is no room makes the Keep Bad, and the state stays behind those that were written.
func TestFullDisk(t *testing.T) {
	all := states(t, 1, life())
	need := logged(t, 0, texts(life()...)...).Used()
	for room := range need + 1 {
		for _, force := range []bool{false, true} {
			what := fmt.Sprintf("P12.2: a disk of %d bytes, forced %v", room, force)
			d := file.New(room)
			k := mustOpen(t, d, 1)
			n := 0
			for n < len(life()) && k.Write(life()[n], force) == api.OK {
				n++
			}
			if d.Used() != logged(t, 0, texts(life()[:n]...)...).Used() {
				t.Errorf("%s: Used %d behind %d records", what, d.Used(), n)
			}
			wantState(t, what, k, all[n])
			if room == need {
				wantBad(t, what, k, false)
				continue
			}
			if next := seg.Frame(rec.Encode(life()[n])); d.Used()+len(next) <= room {
				t.Errorf("%s: there was room for record %d", what, n)
			}
			was := whole(d)
			wantDown(t, what, k)
			wantWhole(t, what+": Bad", d, was)
			wantRoomyLasts(t, what, d, all, n, force)
		}
	}
}

// wantRoomyLasts asks what stands behind falls of a disk that is full, laid on one that has room: all n, if they were forced.
func wantRoomyLasts(t *testing.T, what string, d *file.Disk, all []api.State, n int, force bool) {
	t.Helper()
	for fall := range 3 {
		b, is := d.Fall(fall * 31).Read("log000")
		if !is {
			continue
		}
		stands := frames(b)
		if stands > n || force && stands < n {
			t.Errorf("%s: behind Fall(%d) %d records last, of %d", what, fall*31, stands, n)
			continue
		}
		wantState(t, what+": behind a fall", mustOpen(t, with(t, file.New(api.MaxFile), "log000", b), 1), given(all[stands]))
	}
}

// The first Write that does not fit is told as ErrDown, also where the next segment was to begin.
func TestFullDiskAtNextSegment(t *testing.T) {
	records := []api.Record{yes(id(1, 11), bulk(10)...), yes(id(1, 12), bulk(10)...), yes(id(1, 13), bulk(10)...), tx(1, 1), tx(1, 2)}
	all := states(t, 1, records)
	used := logged(t, 0, texts(records[:3]...)...).Used()
	for room := used; room < used+16; room++ {
		d := file.New(room)
		k := mustOpen(t, d, 1)
		mustWrite(t, k, records[:3]...)
		wantErr(t, "P12.2: no room for the next segment", k.Write(records[3], false), api.ErrDown)
		wantState(t, "P12.2: no room for the next segment", k, all[3])
		wantDown(t, "P12.2: no room for the next segment", k)
		wantLasts(t, "P12.2: the elder segment is sure", d, all[3])
	}
}

// When the segments have an end, so has what can be written; all that was written lasts.
func TestNoSegmentIsLeft(t *testing.T) {
	records := []api.Record{yes(id(1, 11), bulk(10)...), yes(id(1, 12), bulk(10)...), yes(id(1, 13), bulk(10)...), tx(1, 1)}
	d := with(t, file.New(api.MaxFile), "state", encode(store.New(1), 999))
	k := mustOpen(t, d, 1)
	mustWrite(t, k, records[:3]...)
	wantErr(t, "P12.2: no segment is left", k.Write(records[3], true), api.ErrDown)
	s := behind(t, store.New(1), records[:3]...)
	wantState(t, "P12.2: no segment is left", k, s)
	wantDown(t, "P12.2: no segment is left", k)
	wantState(t, "P12.2: no segment is left", mustOpen(t, d, 1), s)
}
