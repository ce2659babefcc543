package keep

import (
	"fmt"
	"slices"
	"strings"
	"testing"

	"postillion/api"
	"postillion/file"
	"postillion/seg"
	"postillion/store"
)

// wantPack packs, and asks that it turns nothing that is told, that all lasts, and which files stand behind it.
func wantPack(t *testing.T, what string, k *Keep, d *file.Disk) {
	t.Helper()
	s := k.State()
	wantErr(t, what+": Pack", k.Pack(), api.OK)
	wantState(t, what+": Pack", k, s)
	wantBad(t, what+": Pack", k, false)
	wantLasts(t, what+": Pack", d, s)
	if got := d.Names(); !slices.Equal(got, []string{"state"}) {
		t.Errorf("%s: behind Pack there are %q", what, lies(d))
	}
}

func TestPackAtTheBeginning(t *testing.T) {
	for broker := 1; broker <= 8; broker++ {
		d := file.New(1000)
		k := mustOpen(t, d, broker)
		for n := range 3 {
			wantPack(t, fmt.Sprintf("P12.2: %d Packs of nothing", n+1), k, d)
		}
		wantErr(t, "P12.2: Write behind Pack", k.Write(tx(broker, 1), true), api.OK)
		wantLasts(t, "P12.2: Write behind Pack", d, behind(t, store.New(broker), tx(broker, 1)))
	}
}

// Between any two records, once or twice, and behind a fall.
func TestPackBetweenWrites(t *testing.T) {
	all := states(t, 1, life())
	for at := range len(life()) + 1 {
		for _, force := range []bool{false, true} {
			for packs := 1; packs <= 2; packs++ {
				what := fmt.Sprintf("P12.2: %d Packs behind %d records, forced %v", packs, at, force)
				d := file.New(api.MaxFile)
				k := mustOpen(t, d, 1)
				for _, r := range life()[:at] {
					must(t, k.Write(r, force))
				}
				for range packs {
					wantPack(t, what, k, d)
				}
				for n, r := range life()[at:] {
					must(t, k.Write(r, force))
					wantState(t, what, k, all[at+n+1])
					wantState(t, what+", and a fall by which nothing is lost", mustOpen(t, unharmed(d), 1), given(all[at+n+1]))
				}
				if !force {
					wantLasts(t, what+", and Writes", d, all[at])
				}
				wantPack(t, what+", and Writes", k, d)
				wantState(t, what, k, all[len(all)-1])
			}
		}
	}
}

// Packed behind each record, each of them in a segment of its own.
func TestPackBehindEach(t *testing.T) {
	all := states(t, 1, life())
	d := file.New(api.MaxFile)
	k := mustOpen(t, d, 1)
	for n, r := range life() {
		must(t, k.Write(r, false))
		if want := []string{seg.Name(n), "state"}; n > 0 && !slices.Equal(d.Names(), want) {
			t.Errorf("P12.2: behind %d Packs and a Write there are %q, want %q", n, d.Names(), want)
		}
		wantPack(t, fmt.Sprintf("P12.2: behind record %d", n), k, d)
		wantState(t, "P12.2: packed behind each", k, all[n+1])
	}
}

// A Pack in a Keep that was opened from what another one has packed.
func TestPackBehindOpen(t *testing.T) {
	s := store.New(1)
	d := file.New(api.MaxFile)
	for n, r := range life() {
		k := mustOpen(t, d, 1)
		s = given(s)
		if store.Can(s, r) == api.OK {
			mustWrite(t, k, r)
			s = store.Apply(s, r)
		}
		if n%3 > 0 {
			must(t, k.Pack())
		}
		if n%4 > 0 {
			d = unharmed(d)
		}
		wantState(t, fmt.Sprintf("P12.2: opened and packed, behind record %d", n), k, s)
	}
	wantState(t, "P12.2: opened and packed", mustOpen(t, d, 1), given(s))
}

// Behind a Pack there is less to read, and the disk has room again.
func TestPackMakesRoom(t *testing.T) {
	d := file.New(20000)
	k := mustOpen(t, d, 1)
	fills := func(n int64) []api.Record {
		return []api.Record{prep(id(2, n), bulk(10)...), done(id(2, n), false)}
	}
	for n := range int64(500) {
		if d.Used() > 15000 {
			before := d.Used()
			must(t, k.Pack())
			if d.Used() > 6000 || d.Used() > before/2 {
				t.Fatalf("P12.2: behind Pack %d bytes are used, ahead of it %d", d.Used(), before)
			}
			l, err := seg.Open(d.Fall(0), 0)
			must(t, err)
			if len(l.All()) > 0 {
				t.Fatalf("P12.2: behind Pack there are %d records to read", len(l.All()))
			}
		}
		mustWrite(t, k, fills(n+1)...)
	}
	must(t, k.Force())
	if got := len(mustOpen(t, d.Fall(0), 1).State().Ends); got != 500 {
		t.Errorf("P12.2: %d ended, of 500", got)
	}
}

// What is of another's making in the file that Pack lays the state in does not come into the state.
func TestPackLaysNextAnew(t *testing.T) {
	for _, next := range []string{"", "x", "half of a state"} {
		d := file.New(api.MaxFile)
		k := mustOpen(t, d, 1)
		mustWrite(t, k, life()...)
		with(t, d, "next", []byte(next))
		wantPack(t, "P12.2: next was there", k, d)
	}
}

// Whatever stands in a state, and however long it is.
func TestPackOfLongStates(t *testing.T) {
	long := store.New(5)
	long.NextId, long.NextSeq, long.Tx = base, 1<<40, 200
	for n := range int64(60) {
		long.Ms = append(long.Ms, api.Message{Id: id(5, base-1-n), Queue: "abcdefgh", Body: strings.Repeat("\xff", 60), Seq: 1<<40 - 60 + n, Count: 1000, By: id(1, 1)})
	}
	for n := range int64(2000) {
		long.Waits = append(long.Waits, api.Branch{Tid: id(1, n+1)})
		long.Ends = append(long.Ends, api.End{Tid: id(5, n+1), Yes: n%2 == 0})
		long.Open = append(long.Open, api.Pend{Tid: id(5, n+5000), Parts: []int{1, 2, 3, 4, 6, 7, 8}})
		if n%2 == 1 {
			long.Noes = append(long.Noes, api.Pend{Tid: id(5, n+1), Parts: []int{1, 2, 3, 4, 6, 7, 8}})
		}
	}
	if !store.May(long) {
		t.Fatal("the long state may not be")
	}
	d := with(t, file.New(api.MaxFile), "state", encode(long, 3))
	if d.Used() < 1<<16+1 {
		t.Fatalf("the long state has %d bytes only", d.Used())
	}
	k := mustOpen(t, d, 5)
	wantState(t, "P12.1: a long state", k, long)
	wantPack(t, "P12.2: a long state", k, d)
	wantErr(t, "P12.2: Write to a long state", k.Write(told(id(5, 2), 4), true), api.OK)
	wantLasts(t, "P12.2: Write to a long state", d, store.Apply(long, told(id(5, 2), 4)))
}

// On disks of all sizes: where the state has no room beside the log, the Keep is Bad, and all stands as it was.
func TestPackOnFullDisk(t *testing.T) {
	all := states(t, 1, life())
	for _, packed := range []bool{false, true} {
		fits := 0
		for room := 700; room < 1600; room += 7 {
			d := file.New(room)
			k := mustOpen(t, d, 1)
			mustWrite(t, k, life()[:4]...)
			if packed {
				must(t, k.Pack())
			}
			mustWrite(t, k, life()[4:]...)
			s := all[len(all)-1]
			what := fmt.Sprintf("P12.2: a disk of %d bytes, packed %v", room, packed)
			if d.Used()+len(encode(s, 1)) <= room {
				wantPack(t, what, k, d)
				fits++
				continue
			}
			wantErr(t, what+": Pack", k.Pack(), api.ErrDown)
			wantState(t, what+": Pack", k, s)
			was := whole(d)
			wantDown(t, what, k)
			wantWhole(t, what, d, was)
			k, err := Open(d.Fall(0), 1)
			if err != api.ErrFull && (err != api.OK || !store.Eq(k.State(), given(s))) {
				t.Errorf("%s: behind a fall: error %d", what, err)
			}
		}
		if fits == 0 || fits > 120 {
			t.Errorf("on %d disks a Pack had room", fits)
		}
	}
}

// The segments have an end: a Pack that finds no next one makes the Keep Bad, and nothing is lost.
func TestPackWithoutSegments(t *testing.T) {
	d := file.New(api.MaxFile)
	k := mustOpen(t, d, 1)
	mustWrite(t, k, life()[:6]...)
	for n := range 999 {
		if err := k.Pack(); err != api.OK {
			t.Fatalf("P12.2: Pack %d: error %d", n+1, err)
		}
	}
	must(t, k.Write(life()[6], true))
	s := behind(t, store.New(1), life()[:7]...)
	wantErr(t, "P12.2: Pack 1000", k.Pack(), api.ErrDown)
	wantState(t, "P12.2: Pack 1000", k, s)
	wantDown(t, "P12.2: Pack 1000", k)
	wantLasts(t, "P12.2: Pack 1000", d, s)
	k = mustOpen(t, d, 1)
	wantErr(t, "P12.2: Write to the last segment", k.Write(tx(1, 4), true), api.OK)
	wantLasts(t, "P12.2: Write to the last segment", d, behind(t, given(s), tx(1, 4)))
}
