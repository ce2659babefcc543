package keep

import (
	"fmt"
	"math"
	"testing"

	"postillion/api"
	"postillion/file"
	"postillion/order"
	"postillion/rec"
	"postillion/seg"
	"postillion/store"
)

// What Open makes of a log that stops when some hold messages: those that are prepared, or to be decided, hold them still, the others gave them back.
func TestOpenGivesBack(t *testing.T) {
	d := logged(t, 0, texts(life()...)...)
	k := mustOpen(t, d, 1)
	wantState(t, "P12.1: given back", k, api.State{
		Broker: 1, NextId: 7, NextSeq: 7, Tx: 3,
		Ms: []api.Message{
			{Id: id(1, 1), Queue: "a", Body: "one", Seq: 1, Count: 2},
			{Id: id(1, 2), Queue: "b", Body: "two", Seq: 2, By: id(1, 2)},
			{Id: id(1, 3), Queue: "b", Body: "three", Seq: 3, By: id(4, 1)},
			{Id: id(1, 4), Queue: "c", Body: "four", Seq: 4, Count: 1},
			{Id: id(1, 5), Queue: "c", Body: "five", Seq: 5, Count: 1},
			{Id: id(1, 6), Queue: "e", Body: "eight", Seq: 6},
		},
		Waits: []api.Branch{{Tid: id(4, 1), Puts: []api.Put{put("d", "seven"), put("a", "")}}},
		Ends: []api.End{
			{Tid: id(1, 1), Yes: true}, {Tid: id(1, 3)}, {Tid: id(1, 40)}, {Tid: id(2, 1)}, {Tid: id(3, 1)}, {Tid: id(5, 1), Yes: true}, {Tid: id(6, 1)},
		},
		Open: []api.Pend{{Tid: id(1, 2), Parts: []int{2, 3}}},
		Noes: []api.Pend{{Tid: id(1, 40), Parts: []int{6}}},
	})
	if loose := order.Loose(k.State()); len(loose) > 0 {
		t.Errorf("P12.1: behind Open %v are loose", loose)
	}
	wantErr(t, "P12.2: one that was given back", k.Write(take(id(1, 3), id(1, 4)), true), api.ErrOver)
	wantErr(t, "P12.2: what was given back", k.Write(take(id(8, 1), id(1, 4)), true), api.OK)
	wantErr(t, "P12.2: what is held still", k.Write(take(id(8, 1), id(1, 3)), true), api.ErrBusy)
}

// The log has an RBack of each, rising, behind what stood there, and all of it is sure.
func TestOpenWritesBack(t *testing.T) {
	records := append(life(), take(id(7, 1), id(1, 1)), take(id(1, 9), id(1, 6)))
	d := logged(t, 0, texts(records...)...)
	k := mustOpen(t, d, 1)
	want := append(records, back(id(1, 3)), back(id(1, 9)), back(id(6, 1)), back(id(7, 1)))
	l, err := seg.Open(d.Fall(0), 0)
	must(t, err)
	for n, b := range l.All() {
		if r, err := rec.Decode(b); err != api.OK || n >= len(want) || !rec.Eq(r, want[n]) {
			t.Errorf("P12.1: record %d of the log is %+v, error %d", n, r, err)
		}
	}
	if len(l.All()) != len(want) {
		t.Errorf("P12.1: the log has %d records, want %d", len(l.All()), len(want))
	}
	wantState(t, "P12.1: given back", k, behind(t, store.New(1), want...))
}

// A message that is given back at its third Open is dead; its Count stops at 1,000.
func TestOpenCounts(t *testing.T) {
	d := file.New(api.MaxFile)
	k := mustOpen(t, d, 1)
	mustWrite(t, k, yes(id(1, 1000), put("a", "x"), put("a", "y")))
	for n := range int64(1003) {
		must(t, k.Write(take(id(2, n+1), id(1, 1)), true))
		k = mustOpen(t, d.Fall(0), 1)
		m := k.State().Ms[0]
		if want := int(min(n+1, 1000)); m.Count != want || m.By != 0 || order.Dead(m) != (n >= 2) {
			t.Fatalf("P12.1: given back %d times: %+v", n+1, m)
		}
		if m := k.State().Ms[1]; m.Count != 0 {
			t.Fatalf("P12.1: another one, when one was given back %d times: %+v", n+1, m)
		}
		d = file.New(api.MaxFile)
		with(t, d, "state", encode(k.State(), 0))
		k = mustOpen(t, d, 1)
	}
}

// What was given back is given back once: to open anew changes nothing more, on the disk neither.
func TestOpenTwice(t *testing.T) {
	records := append(life(), tx(1, 4))
	for n := range len(records) + 1 {
		for _, fall := range []int{0, 1, 5, 9, 16, 30, 100, 1000} {
			d := file.New(api.MaxFile)
			mustWrite(t, mustOpen(t, d, 1), records[:n]...)
			d = d.Fall(fall)
			first := mustOpen(t, d, 1)
			was := whole(d)
			wantState(t, fmt.Sprintf("P12.1: opened twice behind %d records and Fall(%d)", n, fall), mustOpen(t, d, 1), first.State())
			wantWhole(t, "P12.1: opened twice", d, was)
			for _, more := range []int{0, 1, 7, math.MaxInt} {
				c := d.Fall(more)
				wantState(t, fmt.Sprintf("P12.1: opened twice, and Fall(%d) between", more), mustOpen(t, c, 1), first.State())
				wantWhole(t, "P12.1: opened twice, and a fall between", c, was)
			}
		}
	}
}

// What Open has told lasts, whether or not it was sure ahead of it.
func TestOpenMakesSure(t *testing.T) {
	for n := range len(life()) + 1 {
		d := file.New(api.MaxFile)
		mustWrite(t, mustOpen(t, d, 1), life()[:n]...)
		k := mustOpen(t, d, 1)
		wantState(t, "P12.1: opened without a fall", k, given(behind(t, store.New(1), life()[:n]...)))
		wantLasts(t, "P12.1: opened without a fall", d, k.State())
	}
}

// A disk that has no room for the RBacks, or for some of them: its error, and what is opened later, with more room, is whole.
func TestOpenWithoutRoomToGiveBack(t *testing.T) {
	need := logged(t, 0, texts(life()...)...).Used()
	want := behind(t, store.New(1), life()...)
	each := len(seg.Frame(rec.Encode(back(id(6, 1)))))
	for room := need; room <= need+2*each; room++ {
		d := file.New(room)
		for n := range life() {
			must(t, d.Append("log000", seg.Frame(rec.Encode(life()[n]))))
		}
		if room < need+2*each {
			wantNoOpen(t, "no room to give back", d, 1, api.ErrFull)
			wantNoOpen(t, "no room to give back, behind a fall", d.Fall(need), 1, api.ErrFull)
		} else {
			wantState(t, "P12.1: just room to give back", mustOpen(t, d, 1), given(want))
		}
		b, _ := d.Read("log000")
		wantState(t, "P12.1: on a disk with room", mustOpen(t, with(t, file.New(api.MaxFile), "log000", b), 1), given(want))
	}
}

// A disk that has no room to write what stands ahead of a torn tail anew.
func TestOpenWithoutRoomForTornTail(t *testing.T) {
	b := seg.Frame(rec.Encode(tx(1, 1)))
	torn := append(b, b[:5]...)
	for room := len(torn); room <= len(torn)+len(b); room++ {
		d := file.New(room)
		must(t, d.Append("log000", torn), d.Sync("log000"))
		if room < len(torn)+len(b) {
			wantNoOpen(t, "no room for a torn tail", d, 1, api.ErrFull)
		} else {
			wantState(t, "P12.1: just room for a torn tail", mustOpen(t, d, 1), behind(t, store.New(1), tx(1, 1)))
		}
	}
}

// Where as many ended as may, none can be given back any more, and all is opened all the same; of two that are loose, when one more may end, the lower one ends.
func TestOpenWhenAllEnded(t *testing.T) {
	for ends := range 3 {
		s := store.New(1)
		for n := range int64(1998 + ends) {
			s.Ends = append(s.Ends, api.End{Tid: id(2, n+1), Yes: n%2 == 0})
		}
		s.NextId, s.NextSeq = 3, 3
		s.Ms = []api.Message{{Id: id(1, 1), Queue: "a", Seq: 1, By: id(3, 7)}, {Id: id(1, 2), Queue: "a", Seq: 2, Count: 4, By: id(3, 6)}}
		d := with(t, file.New(api.MaxFile), "state", encode(s, 0))
		want := behind(t, s, []api.Record{back(id(3, 6)), back(id(3, 7))}[:2-ends]...)
		k := mustOpen(t, d, 1)
		wantState(t, fmt.Sprintf("P12.1: %d ended", len(s.Ends)), k, want)
		wantBad(t, "P12.1: when all ended", k, false)
		wantState(t, "P12.1: opened twice", mustOpen(t, d.Fall(0), 1), want)
	}
}
