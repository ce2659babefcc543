package keep

import (
	"fmt"
	"slices"
	"testing"

	"postillion/api"
	"postillion/file"
	"postillion/store"
)

// fill writes x into all of list and the room behind it.
func fill[T any](list []T, x T) {
	list = list[:cap(list)]
	for k := range list {
		list[k] = x
	}
}

func fillPends(pends []api.Pend) {
	for _, p := range pends {
		fill(p.Parts, -9)
	}
	fill(pends, api.Pend{Tid: -9, Parts: []int{-9}})
}

// turnState writes into all that s leads to.
func turnState(s *api.State) {
	for _, w := range s.Waits {
		fill(w.Puts, put("#", "#"))
	}
	fill(s.Ms, api.Message{Id: -9, Queue: "#", Body: "#", Seq: -9, Count: -9, By: -9})
	fill(s.Waits, api.Branch{Tid: -9, Puts: []api.Put{put("#", "#")}})
	fill(s.Ends, api.End{Tid: -9, Yes: true})
	fillPends(s.Open)
	fillPends(s.Noes)
	s.Broker, s.NextId, s.NextSeq, s.Tx = -9, -9, -9, -9
}

// roomy is r with room behind its lists, in which something stands.
func roomy(r api.Record) api.Record {
	r.Parts = append(slices.Clip(slices.Clone(r.Parts)), 1, 2, 3)[:len(r.Parts)]
	r.Puts = append(slices.Clip(slices.Clone(r.Puts)), put("behind", ""), put("#", "#"))[:len(r.Puts)]
	return r
}

// opened tells of r with all that stands in the room behind its lists.
func opened(r api.Record) string {
	r.Parts, r.Puts = r.Parts[:cap(r.Parts)], r.Puts[:cap(r.Puts)]
	return fmt.Sprintf("%+v", r)
}

// Whoever writes into a State that was answered changes nothing: neither the Keep, nor what it writes later, nor another answer.
func TestStateIsTheCallersOwn(t *testing.T) {
	d, e := file.New(api.MaxFile), file.New(api.MaxFile)
	k, plain := mustOpen(t, d, 1), mustOpen(t, e, 1)
	all := states(t, 1, append(life(), tx(1, 4)))
	for n, r := range append(life(), tx(1, 4)) {
		s, other := k.State(), k.State()
		turnState(&s)
		wantState(t, "P12.2: behind a State that was written into", k, all[n])
		if !store.Eq(other, all[n]) {
			t.Errorf("P0.3: a State was written into, and another is %+v, want %+v", other, all[n])
		}
		must(t, k.Write(r, false), plain.Write(r, false))
		if n%5 == 4 {
			must(t, k.Pack(), plain.Pack())
		}
		if !store.Eq(other, all[n]) {
			t.Errorf("P0.3: a record was written, and a State that was answered ahead of it is %+v, want %+v", other, all[n])
		}
		wantWhole(t, "P0.3: behind States that were written into", d, whole(e))
	}
}

// What is handed in is neither turned nor kept.
func TestRecordsAreTheCallersOwn(t *testing.T) {
	d, e := file.New(api.MaxFile), file.New(api.MaxFile)
	k, plain := mustOpen(t, d, 1), mustOpen(t, e, 1)
	all := states(t, 1, life())
	for n := range life() {
		r := roomy(life()[n])
		was := opened(r)
		must(t, k.Write(r, n%2 == 0), plain.Write(life()[n], n%2 == 0))
		if opened(r) != was {
			t.Errorf("P0.3: Write turned what was handed in: %s, was %s", opened(r), was)
		}
		wantErr(t, "P12.2: Write of what can't be", k.Write(roomy(api.Record{Kind: api.RTx, Tid: id(1, 1), Puts: bulk(2)}), true), api.ErrForm)
		fill(r.Parts, 7)
		fill(r.Puts, put("later", "later"))
		wantState(t, "P0.3: a record that was written is turned", k, all[n+1])
		wantWhole(t, "P0.3: a record that was written is turned", d, whole(e))
	}
	must(t, k.Force())
	wantLasts(t, "P0.3: records that were written are turned", d, all[len(all)-1])
}

// A list that is empty is like none.
func TestNilIsEmpty(t *testing.T) {
	d, e := file.New(api.MaxFile), file.New(api.MaxFile)
	k, plain := mustOpen(t, d, 1), mustOpen(t, e, 1)
	for _, r := range append(life(), yes(id(1, 50)), prep(id(2, 50)), no(id(1, 51))) {
		empty := r
		if len(r.Parts) == 0 {
			empty.Parts = []int{}
		}
		if len(r.Puts) == 0 {
			empty.Puts = []api.Put{}
		}
		wantErr(t, "P0.4: Write with empty lists", k.Write(empty, true), api.OK)
		must(t, plain.Write(r, true))
		wantState(t, "P0.4: Write with empty lists", k, plain.State())
		wantWhole(t, "P0.4: Write with empty lists", d, whole(e))
	}
}

// The disk is the caller's as much as the Keep's: what is read of it is its own.
func TestDiskIsRead(t *testing.T) {
	d := file.New(api.MaxFile)
	k := mustOpen(t, d, 1)
	mustWrite(t, k, life()...)
	must(t, k.Pack(), k.Write(tx(1, 4), true))
	was := whole(d)
	for _, name := range d.Names() {
		b, _ := d.Read(name)
		fill(b, '#')
	}
	wantWhole(t, "P0.3: what was read of the disk is turned", d, was)
	o := mustOpen(t, d, 1)
	s := o.State()
	turnState(&s)
	wantState(t, "P0.3: a State of another Keep is turned", k, behind(t, store.New(1), append(life(), tx(1, 4))...))
}
