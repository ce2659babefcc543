package store

import (
	"slices"
	"testing"

	"postillion/api"
)

// wantApply asks what r makes of s, twice.
func wantApply(t *testing.T, name string, s api.State, r api.Record, want api.State) {
	t.Helper()
	was := copied(s)
	for range 2 {
		now := Apply(s, r)
		if !same(now, want) || !same(s, was) {
			t.Errorf("P10.3: %s: Apply of %s:\n%s, want\n%s; was\n%s", name, tellRecord(r), tell(now), tell(want), tell(s))
		}
		if !May(now) {
			t.Errorf("P10.3: %s: Apply of %s: a state that may not be: %s", name, tellRecord(r), tell(now))
		}
	}
}

// made is a record, and how what it makes of whole is unlike whole: written by hand.
type made struct {
	name string
	r    api.Record
	turn func(s *api.State)
}

func wantMade(t *testing.T, all []made) {
	t.Helper()
	for _, x := range all {
		want := whole()
		x.turn(&want)
		wantCan(t, x.name, whole(), x.r, api.OK)
		wantApply(t, x.name, whole(), x.r, want)
	}
}

func TestApplyTx(t *testing.T) {
	wantMade(t, []made{{"the next one", api.Record{Kind: 1, Tid: id(3, 13)}, func(s *api.State) { s.Tx = 13 }}})
	s := New(6)
	for n := range int64(200) {
		want := New(6)
		want.Tx = n + 1
		wantApply(t, "one behind the other", s, api.Record{Kind: 1, Tid: id(6, n+1)}, want)
		s = Apply(s, api.Record{Kind: 1, Tid: id(6, n+1)})
	}
	wantApply(t, "the 201st", s, api.Record{Kind: 1, Tid: id(6, 201)}, s)
}

func TestApplyTake(t *testing.T) {
	wantMade(t, []made{
		{"a free one", api.Record{Kind: 2, Tid: far, Id: id(3, 2)}, func(s *api.State) { s.Ms[1].By = far }},
		{"the last one", api.Record{Kind: 2, Tid: idle, Id: id(3, 19)}, func(s *api.State) { s.Ms[6].By = idle }},
		{"one more", api.Record{Kind: 2, Tid: theirs, Id: id(3, 2)}, func(s *api.State) { s.Ms[1].By = theirs }},
		{"its own", api.Record{Kind: 2, Tid: theirs, Id: id(3, 16)}, func(s *api.State) {}},
	})
}

func TestApplyBack(t *testing.T) {
	wantMade(t, []made{
		{"two messages, of which one's Count can't be more", api.Record{Kind: 3, Tid: theirs}, func(s *api.State) {
			s.Ms[3].By, s.Ms[3].Count = 0, 1000
			s.Ms[4].By, s.Ms[4].Count = 0, 1000
			s.Ends = append(s.Ends, api.End{Tid: theirs})
		}},
		{"nothing taken, ahead of most", api.Record{Kind: 3, Tid: far}, func(s *api.State) {
			s.Ends = slices.Insert(s.Ends, 1, api.End{Tid: far})
		}},
		{"the broker's own", api.Record{Kind: 3, Tid: idle}, func(s *api.State) {
			s.Ends = slices.Insert(s.Ends, 4, api.End{Tid: idle})
		}},
		{"just ahead of one that ended", api.Record{Kind: 3, Tid: ill - 1}, func(s *api.State) {
			s.Ends = slices.Insert(s.Ends, 4, api.End{Tid: ill - 1})
		}},
	})
	s := New(2)
	s.Waits = []api.Branch{{Tid: id(5, 5)}}
	want := copied(s)
	want.Ends = []api.End{{Tid: id(1, 1)}}
	wantApply(t, "the first one that ends", s, api.Record{Kind: 3, Tid: id(1, 1)}, want)
}

func TestApplyPrep(t *testing.T) {
	wantMade(t, []made{
		{"one that took", api.Record{Kind: 4, Tid: theirs, Puts: []api.Put{put("b", "x"), put("b", "x"), put("a", some)}}, func(s *api.State) {
			s.Waits = slices.Insert(s.Waits, 2, api.Branch{Tid: theirs, Puts: []api.Put{put("b", "x"), put("b", "x"), put("a", some)}})
		}},
		{"without puts", api.Record{Kind: 4, Tid: far}, func(s *api.State) {
			s.Waits = slices.Insert(s.Waits, 1, api.Branch{Tid: far})
		}},
		{"ten puts, of one between", api.Record{Kind: 4, Tid: id(5, 10), Puts: tenPuts()}, func(s *api.State) {
			s.Waits = slices.Insert(s.Waits, 2, api.Branch{Tid: id(5, 10), Puts: tenPuts()})
		}},
		{"behind nearly all", api.Record{Kind: 4, Tid: last - 1}, func(s *api.State) {
			s.Waits = slices.Insert(s.Waits, 2, api.Branch{Tid: last - 1})
		}},
	})
}

func TestApplyDone(t *testing.T) {
	wantMade(t, []made{
		{"well", api.Record{Kind: 5, Tid: yours, Yes: true}, func(s *api.State) {
			s.Ms = []api.Message{s.Ms[1], s.Ms[2], s.Ms[3], s.Ms[4], s.Ms[6],
				{Id: id(3, 20), Queue: "b", Body: "new", Seq: 40}, {Id: id(3, 21), Queue: "letters", Seq: 41}}
			s.NextId, s.NextSeq = 22, 42
			s.Waits = []api.Branch{s.Waits[0], s.Waits[2]}
			s.Ends = slices.Insert(s.Ends, 4, api.End{Tid: yours, Yes: true})
		}},
		{"not well", api.Record{Kind: 5, Tid: yours}, func(s *api.State) {
			s.Ms[0].By, s.Ms[0].Count = 0, 3
			s.Ms[5].By, s.Ms[5].Count = 0, 1
			s.Waits = []api.Branch{s.Waits[0], s.Waits[2]}
			s.Ends = slices.Insert(s.Ends, 4, api.End{Tid: yours})
		}},
		{"well, ten puts", api.Record{Kind: 5, Tid: last, Yes: true}, func(s *api.State) {
			for k, p := range tenPuts() {
				s.Ms = append(s.Ms, api.Message{Id: id(3, int64(20+k)), Queue: p.Queue, Body: p.Body, Seq: int64(40 + k)})
			}
			s.NextId, s.NextSeq = 30, 50
			s.Waits = s.Waits[:2]
			s.Ends = append(s.Ends, api.End{Tid: last, Yes: true})
		}},
		{"not well, ten puts", api.Record{Kind: 5, Tid: last}, func(s *api.State) {
			s.Waits = s.Waits[:2]
			s.Ends = append(s.Ends, api.End{Tid: last})
		}},
		{"well, nothing at all", api.Record{Kind: 5, Tid: id(1, 1), Yes: true}, func(s *api.State) {
			s.Waits = s.Waits[1:]
			s.Ends = slices.Insert(s.Ends, 0, api.End{Tid: id(1, 1), Yes: true})
		}},
		{"not well, nothing at all", api.Record{Kind: 5, Tid: id(1, 1)}, func(s *api.State) {
			s.Waits = s.Waits[1:]
			s.Ends = slices.Insert(s.Ends, 0, api.End{Tid: id(1, 1)})
		}},
	})
}

func TestApplyColl(t *testing.T) {
	wantMade(t, []made{
		{"two Parts", api.Record{Kind: 6, Tid: idle, Parts: []int{1, 8}}, func(s *api.State) {
			s.Open = append(s.Open, api.Pend{Tid: idle, Parts: []int{1, 8}})
		}},
		{"all Parts, ahead of all", api.Record{Kind: 6, Tid: id(3, 2), Parts: others(3)}, func(s *api.State) {
			s.Open = slices.Insert(s.Open, 0, api.Pend{Tid: id(3, 2), Parts: others(3)})
		}},
	})
	s := whole()
	s.Ms[1].By = id(3, 2)
	want := copied(s)
	want.Open = slices.Insert(want.Open, 0, api.Pend{Tid: id(3, 2), Parts: []int{4}})
	wantApply(t, "one that has taken something", s, api.Record{Kind: 6, Tid: id(3, 2), Parts: []int{4}}, want)
}

func TestApplyYes(t *testing.T) {
	wantMade(t, []made{
		{"in Open, with puts", api.Record{Kind: 7, Tid: mine, Puts: []api.Put{put("z", "1"), put("a", "2"), put("z", "")}}, func(s *api.State) {
			s.Ms = append(slices.Delete(s.Ms, 2, 3),
				api.Message{Id: id(3, 20), Queue: "z", Body: "1", Seq: 40},
				api.Message{Id: id(3, 21), Queue: "a", Body: "2", Seq: 41},
				api.Message{Id: id(3, 22), Queue: "z", Seq: 42})
			s.NextId, s.NextSeq = 23, 43
			s.Open = s.Open[1:]
			s.Ends = slices.Insert(s.Ends, 3, api.End{Tid: mine, Yes: true})
		}},
		{"in Open, without all", api.Record{Kind: 7, Tid: id(3, 6)}, func(s *api.State) {
			s.Open = s.Open[:1]
			s.Ends = slices.Insert(s.Ends, 4, api.End{Tid: id(3, 6), Yes: true})
		}},
		{"not in Open", api.Record{Kind: 7, Tid: idle, Puts: tenPuts()[:1]}, func(s *api.State) {
			s.Ms = append(s.Ms, api.Message{Id: id(3, 20), Queue: "letters", Seq: 40})
			s.NextId, s.NextSeq = 21, 41
			s.Ends = slices.Insert(s.Ends, 4, api.End{Tid: idle, Yes: true})
		}},
	})
	s := api.State{Broker: 1, NextId: base - 1, NextSeq: 1<<40 - 1, Ms: messages(1, 71)}
	for k := range s.Ms {
		s.Ms[k].By = id(1, 1)
	}
	want := api.State{Broker: 1, NextId: base, NextSeq: 1 << 40, Ms: []api.Message{{Id: 2*base - 1, Queue: "q", Body: "the last", Seq: 1<<40 - 1}}, Ends: []api.End{{Tid: id(1, 1), Yes: true}}}
	wantApply(t, "all that is there goes, and the last one comes", s, api.Record{Kind: 7, Tid: id(1, 1), Puts: []api.Put{put("q", "the last")}}, want)
}

func TestApplyNo(t *testing.T) {
	wantMade(t, []made{
		{"in Open, its Parts", api.Record{Kind: 8, Tid: mine, Parts: []int{1, 2}}, func(s *api.State) {
			s.Ms[2].By, s.Ms[2].Count = 0, 4
			s.Open = s.Open[1:]
			s.Ends = slices.Insert(s.Ends, 3, api.End{Tid: mine})
			s.Noes = slices.Insert(s.Noes, 1, api.Pend{Tid: mine, Parts: []int{1, 2}})
		}},
		{"in Open, other Parts", api.Record{Kind: 8, Tid: id(3, 6), Parts: others(3)}, func(s *api.State) {
			s.Open = s.Open[:1]
			s.Ends = slices.Insert(s.Ends, 4, api.End{Tid: id(3, 6)})
			s.Noes = append(s.Noes, api.Pend{Tid: id(3, 6), Parts: others(3)})
		}},
		{"in Open, no Parts", api.Record{Kind: 8, Tid: mine}, func(s *api.State) {
			s.Ms[2].By, s.Ms[2].Count = 0, 4
			s.Open = s.Open[1:]
			s.Ends = slices.Insert(s.Ends, 3, api.End{Tid: mine})
		}},
		{"not in Open, no Parts", api.Record{Kind: 8, Tid: idle}, func(s *api.State) {
			s.Ends = slices.Insert(s.Ends, 4, api.End{Tid: idle})
		}},
		{"not in Open, a Part", api.Record{Kind: 8, Tid: id(3, 2), Parts: []int{7}}, func(s *api.State) {
			s.Ends = slices.Insert(s.Ends, 2, api.End{Tid: id(3, 2)})
			s.Noes = slices.Insert(s.Noes, 1, api.Pend{Tid: id(3, 2), Parts: []int{7}})
		}},
	})
}

func TestApplyTold(t *testing.T) {
	wantMade(t, []made{
		{"the first", api.Record{Kind: 9, Tid: toTell, Parts: []int{1}}, func(s *api.State) { s.Noes[0].Parts = []int{2, 4, 5, 6, 7, 8} }},
		{"one between", api.Record{Kind: 9, Tid: toTell, Parts: []int{5}}, func(s *api.State) { s.Noes[0].Parts = []int{1, 2, 4, 6, 7, 8} }},
		{"the last", api.Record{Kind: 9, Tid: toTell, Parts: []int{8}}, func(s *api.State) { s.Noes[0].Parts = []int{1, 2, 4, 5, 6, 7} }},
		{"the only one", api.Record{Kind: 9, Tid: id(3, 5), Parts: []int{2}}, func(s *api.State) { s.Noes = s.Noes[:1] }},
	})
	s := whole()
	want := whole()
	for k, b := range []int{6, 1, 8, 2, 5, 4, 7} {
		want.Noes[0].Parts = slices.DeleteFunc(want.Noes[0].Parts, func(p int) bool { return p == b })
		if k == 6 {
			want.Noes = want.Noes[1:]
		}
		r := api.Record{Kind: 9, Tid: toTell, Parts: []int{b}}
		wantApply(t, "one behind the other", s, r, want)
		s = Apply(s, r)
		wantCan(t, "told already", s, r, api.ErrNone)
	}
}

// What was taken can be given back a thousand times that are counted.
func TestApplyCount(t *testing.T) {
	s := New(1)
	s.NextId, s.NextSeq, s.Ms = 2, 2, messages(1, 1)
	for n := range int64(1100) {
		tid := id(2, n+1)
		s = Apply(s, api.Record{Kind: 2, Tid: tid, Id: id(1, 1)})
		if s.Ms[0].By != tid || s.Ms[0].Count != min(int(n), 1000) {
			t.Fatalf("P10.3: taken %d times: %s", n+1, tell(s))
		}
		if n%2 == 0 {
			s = Apply(s, api.Record{Kind: 3, Tid: tid})
		} else {
			s = Apply(Apply(s, api.Record{Kind: 4, Tid: tid}), api.Record{Kind: 5, Tid: tid})
		}
		if s.Ms[0].By != 0 || s.Ms[0].Count != min(int(n+1), 1000) || int64(len(s.Ends)) != n+1 || !May(s) {
			t.Fatalf("P10.3: given back %d times: %s", n+1, tell(s))
		}
	}
}

// As many as may be of each list, and what is made of them.
func TestApplyFull(t *testing.T) {
	s := filled()
	for _, x := range []made{
		{"a message is taken", api.Record{Kind: 2, Tid: far, Id: id(3, 72)}, func(s *api.State) { s.Ms[71].By = far }},
		{"a Part is told", api.Record{Kind: 9, Tid: id(3, 1007), Parts: []int{2}}, func(s *api.State) { s.Noes[7].Parts = []int{7} }},
		{"the first that waits, which ends as the 2,000th", api.Record{Kind: 5, Tid: id(6, 1)}, func(s *api.State) { s.Waits = s.Waits[1:]; s.Ends = append(s.Ends, api.End{Tid: id(6, 1)}) }},
		{"the last in Open, which ends as the 2,000th", api.Record{Kind: 8, Tid: id(3, 6999), Parts: []int{1}}, func(s *api.State) {
			s.Open = s.Open[:1999]
			s.Ends = append(s.Ends, api.End{Tid: id(3, 6999)})
			s.Noes = append(s.Noes, api.Pend{Tid: id(3, 6999), Parts: []int{1}})
		}},
		{"the 2,000th in Open", api.Record{Kind: 6, Tid: id(3, 9000), Parts: []int{5}}, func(s *api.State) { s.Open = append(s.Open, api.Pend{Tid: id(3, 9000), Parts: []int{5}}) }},
		{"the 2,000th that waits", api.Record{Kind: 4, Tid: far}, func(s *api.State) { s.Waits = append([]api.Branch{{Tid: far}}, s.Waits...) }},
	} {
		switch x.r.Kind {
		case 5, 8:
			s = filled()
			s.Ends, s.Noes = slices.Delete(s.Ends, 500, 501), slices.Delete(s.Noes, 500, 501)
		case 6:
			s = filled()
			s.Open = s.Open[:1999]
		case 4:
			s = filled()
			s.Waits = s.Waits[1:]
		}
		want := copied(s)
		x.turn(&want)
		wantApply(t, x.name, s, x.r, want)
	}
}

// A state that may be can have more that waits than there is room for, though no records make such a one: what is told to have ended well comes all the same, as the chapter says.
func TestApplyDoneWithoutRoom(t *testing.T) {
	s := api.State{Broker: 2, NextId: 100, NextSeq: 100, Ms: messages(2, 72), Waits: []api.Branch{{Tid: far + base, Puts: tenPuts()}}}
	r := api.Record{Kind: 5, Tid: far + base, Yes: true}
	if !May(s) || Can(s, r) != api.OK {
		t.Fatalf("P10.2: RDone of what there is no room for: %v, %d", May(s), Can(s, r))
	}
	if now := Apply(s, r); len(now.Ms) != 82 || now.NextId != 110 || now.NextSeq != 110 || len(now.Waits) != 0 || len(now.Ends) != 1 {
		t.Errorf("P10.3: RDone of what there is no room for: %s", tell(now))
	}
}
