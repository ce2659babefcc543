package store

import (
	"slices"
	"testing"

	"postillion/api"
)

// widened is list with room behind it, in which something stands.
func widened[T any](list []T, behind T) []T {
	return append(slices.Clip(slices.Clone(list)), behind, behind, behind)[:len(list)]
}

// roomy is s in memory of its own, with room behind each list.
func roomy(s api.State) api.State {
	s.Ms = widened(s.Ms, api.Message{Id: -1, Queue: "behind"})
	s.Waits = widened(s.Waits, api.Branch{Tid: -2})
	for k := range s.Waits {
		s.Waits[k].Puts = widened(s.Waits[k].Puts, put("behind", "?"))
	}
	s.Ends = widened(s.Ends, api.End{Tid: -3, Yes: true})
	s.Open = widened(s.Open, api.Pend{Tid: -4})
	for k := range s.Open {
		s.Open[k].Parts = widened(s.Open[k].Parts, -5)
	}
	s.Noes = widened(s.Noes, api.Pend{Tid: -6})
	for k := range s.Noes {
		s.Noes[k].Parts = widened(s.Noes[k].Parts, -7)
	}
	return s
}

func roomyRecord(r api.Record) api.Record {
	r.Parts, r.Puts = widened(r.Parts, 8), widened(r.Puts, put("behind", "!"))
	return r
}

// opened is s with all that stands in the room behind its lists as if it were theirs.
func opened(s api.State) api.State {
	s.Ms, s.Waits, s.Ends = s.Ms[:cap(s.Ms)], slices.Clone(s.Waits[:cap(s.Waits)]), s.Ends[:cap(s.Ends)]
	for k, w := range s.Waits {
		s.Waits[k].Puts = w.Puts[:cap(w.Puts)]
	}
	s.Open, s.Noes = openedPends(s.Open), openedPends(s.Noes)
	return s
}

func openedPends(pends []api.Pend) []api.Pend {
	pends = slices.Clone(pends[:cap(pends)])
	for k, p := range pends {
		pends[k].Parts = p.Parts[:cap(p.Parts)]
	}
	return pends
}

func openedRecord(r api.Record) api.Record {
	r.Parts, r.Puts = r.Parts[:cap(r.Parts)], r.Puts[:cap(r.Puts)]
	return r
}

func sameRecord(a, b api.Record) bool {
	return a.Kind == b.Kind && a.Tid == b.Tid && a.Id == b.Id && a.Yes == b.Yes && slices.Equal(a.Parts, b.Parts) && slices.Equal(a.Puts, b.Puts)
}

// fill writes x into all of list and the room behind it.
func fill[T any](list []T, x T) {
	list = list[:cap(list)]
	for k := range list {
		list[k] = x
	}
}

// spoil writes into all lists of s and the room behind them.
func spoil(s api.State) {
	for _, w := range s.Waits[:cap(s.Waits)] {
		fill(w.Puts, put("#", "#"))
	}
	for _, p := range slices.Concat(s.Open[:cap(s.Open)], s.Noes[:cap(s.Noes)]) {
		fill(p.Parts, -9)
	}
	fill(s.Ms, api.Message{Id: -9, Queue: "#"})
	fill(s.Waits, api.Branch{Tid: -9, Puts: []api.Put{put("#", "#")}})
	fill(s.Ends, api.End{Tid: -9, Yes: true})
	fill(s.Open, api.Pend{Tid: -9, Parts: []int{-9}})
	fill(s.Noes, api.Pend{Tid: -9, Parts: []int{-9}})
}

func spoilRecord(r api.Record) {
	fill(r.Parts, -9)
	fill(r.Puts, put("#", "#"))
}

// ownRecords are one of each Kind that can be in whole, some that can't be, and one that may not be.
func ownRecords() []api.Record {
	return []api.Record{
		{Kind: 1, Tid: id(3, 13)},
		{Kind: 2, Tid: far, Id: id(3, 2)},
		{Kind: 2, Tid: theirs, Id: id(3, 16)},
		{Kind: 3, Tid: theirs},
		{Kind: 3, Tid: far},
		{Kind: 4, Tid: far},
		{Kind: 4, Tid: far, Puts: tenPuts()},
		{Kind: 5, Tid: yours, Yes: true},
		{Kind: 5, Tid: yours},
		{Kind: 5, Tid: last, Yes: true},
		{Kind: 6, Tid: idle, Parts: []int{1, 2, 8}},
		{Kind: 7, Tid: mine, Puts: tenPuts()},
		{Kind: 7, Tid: idle},
		{Kind: 8, Tid: mine, Parts: []int{1, 2}},
		{Kind: 8, Tid: idle, Parts: others(3)},
		{Kind: 8, Tid: idle},
		{Kind: 9, Tid: toTell, Parts: []int{4}},
		{Kind: 9, Tid: id(3, 5), Parts: []int{2}},
		{Kind: 3, Tid: well},
		{Kind: 4, Tid: last, Puts: tenPuts()},
		{Kind: 6, Tid: mine, Parts: []int{1, 2}},
		{Kind: 8, Tid: far, Parts: []int{1, 2}},
		{},
	}
}

// ownStates are some that may be, and some that may not.
func ownStates() []api.State {
	less, none := whole(), whole()
	less.Tx = 201
	none.Broker = 0
	return []api.State{whole(), New(3), less, none, zero}
}

// Nothing that is handed in is turned, the room behind it neither; and that room is not read.
func TestNothingIsTurned(t *testing.T) {
	for _, was := range ownStates() {
		for _, asked := range ownRecords() {
			s, r := roomy(was), roomyRecord(asked)
			wholeS, wholeR := copied(opened(s)), openedRecord(roomyRecord(asked))
			now := Apply(s, r)
			if !same(now, Apply(was, asked)) || Can(s, r) != Can(was, asked) || May(s) != May(was) || !Eq(s, was) || !Eq(was, s) || string(Encode(s)) != string(Encode(was)) {
				t.Errorf("P0.3: %s with room behind the lists is answered unlike: %s", tellRecord(asked), tell(now))
			}
			if !same(opened(s), wholeS) || !sameRecord(openedRecord(r), wholeR) {
				t.Errorf("P0.3: %s: turned what was handed in: %s, %s, was %s", tellRecord(asked), tell(opened(s)), tellRecord(openedRecord(r)), tell(wholeS))
			}
		}
	}
	for _, s := range book() {
		b := Encode(s)
		for _, end := range []int{len(b), len(b) - 1} {
			wide := append(slices.Clone(b), "room behind"...)
			if got, err := Decode(wide[:end]); (err == api.OK) != (end == len(b)) || string(wide) != string(b)+"room behind" || err == api.OK && !same(got, s) {
				t.Errorf("P0.3: Decode of the first %d of %d bytes: %s, %d; they are %x", end, len(b), tell(got), err, wide)
			}
		}
	}
}

// What was handed to Apply may be turned behind it, and what it answered too: nothing else is turned by that.
func TestAppliedIsNew(t *testing.T) {
	for _, was := range ownStates() {
		for _, asked := range ownRecords() {
			want := copied(Apply(was, asked))
			s, r := roomy(was), roomyRecord(asked)
			first, other := Apply(s, r), Apply(s, r)
			spoil(first)
			again := Apply(s, r)
			if !same(other, want) || !same(again, want) || !same(s, was) || !sameRecord(r, asked) {
				t.Errorf("P0.3: Apply of %s, and what it answered was turned: another is %s, a later one %s, want %s; what was handed in is %s, %s", tellRecord(asked), tell(other), tell(again), tell(want), tell(s), tellRecord(r))
			}
			spoil(s)
			spoilRecord(r)
			if !same(other, want) || !same(again, want) {
				t.Errorf("P0.3: Apply of %s, and what was handed in was turned: %s, want %s", tellRecord(asked), tell(other), tell(want))
			}
		}
	}
}

// No two lists of an answer share their room: what is put behind the one is not to be seen in another.
func TestListsShareNothing(t *testing.T) {
	for _, asked := range ownRecords() {
		want := copied(Apply(whole(), asked))
		for _, now := range []api.State{Apply(roomy(whole()), roomyRecord(asked)), mustDecode(t, Encode(want))} {
			wantApart(t, now, want)
		}
	}
}

// wantApart puts more behind each list of now by itself, and asks that all else is as it was.
func wantApart(t *testing.T, now, want api.State) {
	t.Helper()
	_ = append(now.Ms, api.Message{Id: -9})
	_ = append(now.Waits, api.Branch{Tid: -9})
	_ = append(now.Ends, api.End{Tid: -9})
	_ = append(now.Open, api.Pend{Tid: -9})
	_ = append(now.Noes, api.Pend{Tid: -9})
	for _, w := range now.Waits {
		_ = append(w.Puts, put("#", "#"), put("#", "#"))
	}
	for _, p := range slices.Concat(now.Open, now.Noes) {
		_ = append(p.Parts, -9, -9, -9)
	}
	if !same(now, want) {
		t.Errorf("P0.3: lists share room: %s, want %s", tell(now), tell(want))
	}
}

func mustDecode(t *testing.T, b []byte) api.State {
	t.Helper()
	s, err := Decode(b)
	if err != api.OK {
		t.Fatalf("P10.1: Decode of %x: %d", b, err)
	}
	return s
}

func TestEncodedIsNew(t *testing.T) {
	for _, was := range book() {
		s := roomy(was)
		first, other := Encode(s), Encode(s)
		want := string(other)
		fill(first, '#')
		if again := Encode(s); string(other) != want || string(again) != want || !same(s, was) {
			t.Errorf("P0.3: the bytes were written into: other ones are %x, those of a later call %x", other, again)
		}
		spoil(s)
		if string(other) != want {
			t.Errorf("P0.3: the state was turned behind Encode, and the bytes are %x", other)
		}
	}
}

func TestDecodedIsNew(t *testing.T) {
	for _, want := range book() {
		b := widened(Encode(want), '#')
		was := string(b)
		first, other := mustDecode(t, b), mustDecode(t, b)
		spoil(first)
		if again := mustDecode(t, b); !same(other, want) || !same(again, want) || string(b) != was {
			t.Errorf("P0.3: the state was turned: another one is %s, a later one %s", tell(other), tell(again))
		}
		fill(b, '#')
		if !same(other, want) {
			t.Errorf("P0.3: the bytes were turned behind Decode, and the state is %s", tell(other))
		}
	}
}

// The same is answered of the same, whatever was asked between.
func TestAskedTwice(t *testing.T) {
	d := dice(14)
	type answer struct {
		may   bool
		can   api.Errno
		bytes string
		now   api.State
	}
	var all []answer
	states, records := ownStates(), ownRecords()
	for round := range 2 {
		k := 0
		for _, s := range states {
			for _, r := range records {
				a := answer{May(s), Can(s, r), string(Encode(s)), Apply(s, r)}
				if round == 0 {
					all = append(all, a)
				} else if w := all[k]; a.may != w.may || a.can != w.can || a.bytes != w.bytes || !same(a.now, w.now) {
					t.Errorf("P0.5: %s is answered %d, then %d: %s, then %s", tellRecord(r), w.can, a.can, tell(w.now), tell(a.now))
				}
				k++
				other := d.begin(k)
				Apply(other, d.record(other))
				Decode([]byte(a.bytes + "x"))
			}
		}
	}
}
