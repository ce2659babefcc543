package store

import (
	"cmp"
	"math"
	"slices"
	"testing"

	"postillion/api"
)

// wantCan asks what stands against r in s, twice, and that what can't be turns nothing.
func wantCan(t *testing.T, name string, s api.State, r api.Record, want api.Errno) {
	t.Helper()
	was := copied(s)
	for range 2 {
		if err := Can(s, r); err != want {
			t.Errorf("P10.2: %s: Can of %s: %d, want %d", name, tellRecord(r), err, want)
		}
	}
	now := Apply(s, r)
	if want != api.OK && !same(now, was) {
		t.Errorf("P10.3: %s: Apply of %s, which can't be: %s", name, tellRecord(r), tell(now))
	}
	if want == api.OK && !May(now) {
		t.Errorf("P10.3: %s: Apply of %s: a state that may not be: %s", name, tellRecord(r), tell(now))
	}
	if !same(s, was) {
		t.Errorf("P0.3: %s: %s turned the state: %s", name, tellRecord(r), tell(s))
	}
}

// asked is a record, and what stands against it.
type asked struct {
	name string
	r    api.Record
	want api.Errno
}

func wantCans(t *testing.T, s api.State, all []asked) {
	t.Helper()
	if !May(s) {
		t.Fatalf("P10.1: the state that is asked about may not be: %s", tell(s))
	}
	for _, x := range all {
		wantCan(t, x.name, s, x.r, x.want)
	}
}

// What kind.Record says no to, whatever else stands against it.
func TestCanForm(t *testing.T) {
	s := whole()
	s.Tx = 200
	var all []asked
	for _, kind := range []int{math.MinInt, -1, 0, 10, 65537, math.MaxInt} {
		for _, tid := range append([]int64{0}, allOf...) {
			all = append(all, asked{"no Kind", api.Record{Kind: kind, Tid: tid}, api.ErrForm})
		}
	}
	for kind := 1; kind <= 9; kind++ {
		r := api.Record{Kind: kind}
		switch kind {
		case 2:
			r.Id = id(3, 2)
		case 6, 9:
			r.Parts = []int{2}
		}
		for _, tid := range append([]int64{0}, noTids...) {
			r.Tid = tid
			all = append(all, asked{"no Tid", r, api.ErrForm})
		}
		for _, tid := range allOf {
			for _, turn := range []func(r *api.Record){
				func(r *api.Record) { r.Id = id(3, 2) - r.Id },
				func(r *api.Record) { r.Yes = kind != 5; r.Parts = append(r.Parts, 0) },
				func(r *api.Record) { r.Parts = []int{2, 2} },
				func(r *api.Record) { r.Puts = make([]api.Put, 1) },
				func(r *api.Record) { r.Puts = append(tenPuts(), put("q", "")) },
			} {
				wrong := r
				wrong.Tid = tid
				turn(&wrong)
				all = append(all, asked{"a field that may not be", wrong, api.ErrForm})
			}
		}
	}
	for _, tid := range allOf {
		all = append(all,
			asked{"no Id", api.Record{Kind: 2, Tid: tid}, api.ErrForm},
			asked{"no Parts", api.Record{Kind: 6, Tid: tid}, api.ErrForm},
			asked{"no Part", api.Record{Kind: 9, Tid: tid}, api.ErrForm},
			asked{"two Parts", api.Record{Kind: 9, Tid: tid, Parts: []int{1, 2}}, api.ErrForm},
			asked{"all Parts", api.Record{Kind: 8, Tid: tid, Parts: []int{1, 2, 3, 4, 5, 6, 7, 8}}, api.ErrForm},
		)
	}
	wantCans(t, s, all)
}

// One that ended here is over, whatever else stands against it; but of RTold.
func TestCanOver(t *testing.T) {
	s := whole()
	for _, tid := range []int64{well, ill, toTell, id(3, 3), id(3, 5)} {
		for _, at := range []int64{2, 1, 3, 7} {
			wantCan(t, "a message that stands there or does not", s, api.Record{Kind: 2, Tid: tid, Id: id(3, at)}, api.ErrOver)
		}
		for _, parts := range [][]int{{2}, {3}, others(3)} {
			wantCan(t, "ended", s, api.Record{Kind: 6, Tid: tid, Parts: parts}, api.ErrOver)
			wantCan(t, "ended", s, api.Record{Kind: 8, Tid: tid, Parts: parts}, api.ErrOver)
		}
		for _, r := range []api.Record{{Kind: 1}, {Kind: 3}, {Kind: 4}, {Kind: 4, Puts: tenPuts()}, {Kind: 5}, {Kind: 5, Yes: true}, {Kind: 7}, {Kind: 7, Puts: tenPuts()}, {Kind: 8}} {
			r.Tid = tid
			wantCan(t, "ended", s, r, api.ErrOver)
			wantCan(t, "ended, and all is full", filled(tid), r, api.ErrOver)
		}
	}
	s = New(3)
	s.Tx, s.Ends = 2, []api.End{{Tid: id(3, 3)}}
	wantCan(t, "the next one, which ended", s, api.Record{Kind: 1, Tid: id(3, 3)}, api.ErrOver)
	s.Tx, s.Ends = 200, []api.End{{Tid: id(3, 201), Yes: true}}
	wantCan(t, "the 201st, which ended", s, api.Record{Kind: 1, Tid: id(3, 201)}, api.ErrOver)
}

// filled is a state of broker 3 in which all is full, and those ended.
func filled(ends ...int64) api.State {
	s := api.State{Broker: 3, NextId: base, NextSeq: 1 << 40, Tx: 200, Ms: messages(3, 72)}
	for _, tid := range ends {
		s.Ends = append(s.Ends, api.End{Tid: tid})
	}
	for k := range int64(2000) {
		s.Waits = append(s.Waits, api.Branch{Tid: id(6, k+1)})
		s.Open = append(s.Open, api.Pend{Tid: id(3, 5000+k), Parts: []int{1}})
		if len(s.Ends) < 2000 {
			s.Ends = append(s.Ends, api.End{Tid: id(3, 1000+k)})
		}
	}
	slices.SortFunc(s.Ends, func(a, b api.End) int { return cmp.Compare(a.Tid, b.Tid) })
	for _, e := range s.Ends {
		if e.Tid/base == 3 {
			s.Noes = append(s.Noes, api.Pend{Tid: e.Tid, Parts: []int{2, 7}})
		}
	}
	return s
}

func TestCanTx(t *testing.T) {
	wantCans(t, whole(), []asked{
		{"the next one", api.Record{Kind: 1, Tid: id(3, 13)}, api.OK},
		{"the one before", api.Record{Kind: 1, Tid: id(3, 12)}, api.ErrOther},
		{"the one behind", api.Record{Kind: 1, Tid: id(3, 14)}, api.ErrOther},
		{"one in Open", api.Record{Kind: 1, Tid: mine}, api.ErrOther},
		{"one that is prepared", api.Record{Kind: 1, Tid: yours}, api.ErrOther},
		{"the next one of another broker", api.Record{Kind: 1, Tid: id(2, 13)}, api.ErrOther},
		{"the next one of another broker, above", api.Record{Kind: 1, Tid: id(4, 13)}, api.ErrOther},
	})
	for b := 1; b <= 8; b++ {
		s := New(b)
		wantCan(t, "the first one", s, api.Record{Kind: 1, Tid: id(b, 1)}, api.OK)
		wantCan(t, "the second one", s, api.Record{Kind: 1, Tid: id(b, 2)}, api.ErrOther)
		s.Tx = 199
		wantCan(t, "the last one", s, api.Record{Kind: 1, Tid: id(b, 200)}, api.OK)
		s.Tx = 200
		wantCan(t, "the 201st", s, api.Record{Kind: 1, Tid: id(b, 201)}, api.ErrFull)
		wantCan(t, "the 200th again", s, api.Record{Kind: 1, Tid: id(b, 200)}, api.ErrOther)
		wantCan(t, "the 202nd", s, api.Record{Kind: 1, Tid: id(b, 202)}, api.ErrOther)
	}
	s := whole()
	s.Open[1].Tid = id(3, 13)
	wantCan(t, "the next one, which is in Open already", s, api.Record{Kind: 1, Tid: id(3, 13)}, api.OK)
	wantCan(t, "the 201st, and all is full", filled(), api.Record{Kind: 1, Tid: id(3, 201)}, api.ErrFull)
}

func TestCanTake(t *testing.T) {
	wantCans(t, whole(), []asked{
		{"a free one", api.Record{Kind: 2, Tid: far, Id: id(3, 2)}, api.OK},
		{"a free one, the broker's own", api.Record{Kind: 2, Tid: idle, Id: id(3, 19)}, api.OK},
		{"a free one, one more", api.Record{Kind: 2, Tid: theirs, Id: id(3, 2)}, api.OK},
		{"its own", api.Record{Kind: 2, Tid: theirs, Id: id(3, 17)}, api.OK},
		{"another one's", api.Record{Kind: 2, Tid: theirs, Id: id(3, 7)}, api.ErrBusy},
		{"another one's, which is in Open", api.Record{Kind: 2, Tid: far, Id: id(3, 18)}, api.ErrBusy},
		{"another one's, which only took", api.Record{Kind: 2, Tid: far, Id: id(3, 16)}, api.ErrBusy},
		{"by one that is prepared", api.Record{Kind: 2, Tid: yours, Id: id(3, 2)}, api.ErrBusy},
		{"its own, by one that is prepared", api.Record{Kind: 2, Tid: yours, Id: id(3, 7)}, api.ErrBusy},
		{"by one that is prepared and took nothing", api.Record{Kind: 2, Tid: last, Id: id(3, 2)}, api.ErrBusy},
		{"by one in Open", api.Record{Kind: 2, Tid: mine, Id: id(3, 2)}, api.ErrBusy},
		{"its own, by one in Open", api.Record{Kind: 2, Tid: mine, Id: id(3, 18)}, api.ErrBusy},
		{"by one in Open that took nothing", api.Record{Kind: 2, Tid: id(3, 6), Id: id(3, 2)}, api.ErrBusy},
		{"one that is gone", api.Record{Kind: 2, Tid: far, Id: id(3, 3)}, api.ErrNone},
		{"one that did not come yet", api.Record{Kind: 2, Tid: far, Id: id(3, 20)}, api.ErrNone},
		{"one of another broker", api.Record{Kind: 2, Tid: far, Id: id(2, 2)}, api.ErrNone},
		{"none, by one that is prepared", api.Record{Kind: 2, Tid: yours, Id: id(3, 3)}, api.ErrNone},
		{"none, by one in Open", api.Record{Kind: 2, Tid: mine, Id: id(3, 3)}, api.ErrNone},
		{"a Tid for an Id", api.Record{Kind: 2, Tid: far, Id: far}, api.ErrNone},
	})
	wantCan(t, "all is full", filled(), api.Record{Kind: 2, Tid: far, Id: id(3, 72)}, api.OK)
	wantCan(t, "nothing is there", New(3), api.Record{Kind: 2, Tid: far, Id: id(3, 1)}, api.ErrNone)
}

func TestCanBack(t *testing.T) {
	wantCans(t, whole(), []asked{
		{"one that took", api.Record{Kind: 3, Tid: theirs}, api.OK},
		{"one that is unknown", api.Record{Kind: 3, Tid: far}, api.OK},
		{"the broker's own", api.Record{Kind: 3, Tid: idle}, api.OK},
		{"one that is prepared", api.Record{Kind: 3, Tid: yours}, api.ErrOther},
		{"one that is prepared and took nothing", api.Record{Kind: 3, Tid: last}, api.ErrOther},
		{"one in Open", api.Record{Kind: 3, Tid: mine}, api.ErrOther},
	})
	wantCans(t, filled(), []asked{
		{"unknown, 2,000 Ends", api.Record{Kind: 3, Tid: far}, api.ErrFull},
		{"prepared, 2,000 Ends", api.Record{Kind: 3, Tid: id(6, 2000)}, api.ErrOther},
		{"in Open, 2,000 Ends", api.Record{Kind: 3, Tid: id(3, 5000)}, api.ErrOther},
	})
	s := filled()
	s.Ends, s.Noes = s.Ends[1:], s.Noes[1:]
	wantCan(t, "1,999 Ends", s, api.Record{Kind: 3, Tid: far}, api.OK)
}

func TestCanPrep(t *testing.T) {
	wantCans(t, whole(), []asked{
		{"unknown", api.Record{Kind: 4, Tid: far}, api.OK},
		{"unknown, with puts", api.Record{Kind: 4, Tid: far, Puts: tenPuts()}, api.OK},
		{"one that took", api.Record{Kind: 4, Tid: theirs, Puts: tenPuts()[:1]}, api.OK},
		{"prepared", api.Record{Kind: 4, Tid: yours}, api.ErrOther},
		{"prepared, with the same puts", api.Record{Kind: 4, Tid: last, Puts: tenPuts()}, api.ErrOther},
		{"the broker's own", api.Record{Kind: 4, Tid: idle}, api.ErrOther},
		{"the broker's own, in Open", api.Record{Kind: 4, Tid: mine}, api.ErrOther},
	})
	wantCans(t, filled(), []asked{
		{"unknown, 2,000 Waits", api.Record{Kind: 4, Tid: far}, api.ErrFull},
		{"prepared, 2,000 Waits", api.Record{Kind: 4, Tid: id(6, 1)}, api.ErrOther},
		{"own, 2,000 Waits", api.Record{Kind: 4, Tid: idle}, api.ErrOther},
	})
	s := filled()
	s.Waits = s.Waits[1:]
	wantCan(t, "1,999 Waits, 2,000 Open and Ends, the greatest numbers", s, api.Record{Kind: 4, Tid: far}, api.OK)
	wantCan(t, "the same, with a put", s, api.Record{Kind: 4, Tid: far, Puts: tenPuts()[:1]}, api.ErrFull)
}

func TestCanDone(t *testing.T) {
	for _, yes := range []bool{false, true} {
		wantCans(t, whole(), []asked{
			{"prepared", api.Record{Kind: 5, Tid: yours, Yes: yes}, api.OK},
			{"prepared, with puts alone", api.Record{Kind: 5, Tid: last, Yes: yes}, api.OK},
			{"prepared, without all", api.Record{Kind: 5, Tid: id(1, 1), Yes: yes}, api.OK},
			{"only took", api.Record{Kind: 5, Tid: theirs, Yes: yes}, api.ErrNone},
			{"in Open", api.Record{Kind: 5, Tid: mine, Yes: yes}, api.ErrNone},
			{"unknown", api.Record{Kind: 5, Tid: far, Yes: yes}, api.ErrNone},
			{"the broker's own", api.Record{Kind: 5, Tid: idle, Yes: yes}, api.ErrNone},
		})
		wantCans(t, filled(), []asked{
			{"prepared, 2,000 Ends", api.Record{Kind: 5, Tid: id(6, 7), Yes: yes}, api.ErrFull},
			{"unknown, 2,000 Ends", api.Record{Kind: 5, Tid: far, Yes: yes}, api.ErrNone},
			{"in Open, 2,000 Ends", api.Record{Kind: 5, Tid: id(3, 5001), Yes: yes}, api.ErrNone},
		})
		s := filled()
		s.Ends, s.Noes = s.Ends[1:], s.Noes[1:]
		wantCan(t, "1,999 Ends", s, api.Record{Kind: 5, Tid: id(6, 7), Yes: yes}, api.OK)
		s = filled()
		s.Waits[6].Puts, s.NextId, s.NextSeq, s.Ms = tenPuts(), base-10, 1<<40-10, s.Ms[:62]
		s.Ends, s.Noes = s.Ends[1:], s.Noes[1:]
		wantCan(t, "just room for what is prepared", s, api.Record{Kind: 5, Tid: id(6, 7), Yes: yes}, api.OK)
	}
}

func TestCanColl(t *testing.T) {
	wantCans(t, whole(), []asked{
		{"own", api.Record{Kind: 6, Tid: idle, Parts: []int{1}}, api.OK},
		{"own, all others", api.Record{Kind: 6, Tid: idle, Parts: others(3)}, api.OK},
		{"own, not begun", api.Record{Kind: 6, Tid: id(3, 500), Parts: []int{8}}, api.OK},
		{"another broker's", api.Record{Kind: 6, Tid: far, Parts: []int{1}}, api.ErrOther},
		{"another broker's, which took", api.Record{Kind: 6, Tid: theirs, Parts: []int{1}}, api.ErrOther},
		{"another broker's, prepared", api.Record{Kind: 6, Tid: yours, Parts: []int{1}}, api.ErrOther},
		{"itself a Part", api.Record{Kind: 6, Tid: idle, Parts: []int{3}}, api.ErrOther},
		{"itself one of the Parts", api.Record{Kind: 6, Tid: idle, Parts: []int{1, 3, 8}}, api.ErrOther},
		{"itself the last of the Parts", api.Record{Kind: 6, Tid: idle, Parts: []int{1, 2, 3}}, api.ErrOther},
		{"in Open, with the same Parts", api.Record{Kind: 6, Tid: mine, Parts: []int{1, 2}}, api.ErrOther},
		{"in Open", api.Record{Kind: 6, Tid: id(3, 6), Parts: []int{1}}, api.ErrOther},
	})
	wantCans(t, filled(), []asked{
		{"own, 2,000 in Open", api.Record{Kind: 6, Tid: idle, Parts: []int{1}}, api.ErrFull},
		{"in Open, 2,000 in Open", api.Record{Kind: 6, Tid: id(3, 5000), Parts: []int{1}}, api.ErrOther},
		{"another broker's, 2,000 in Open", api.Record{Kind: 6, Tid: far, Parts: []int{1}}, api.ErrOther},
		{"itself a Part, 2,000 in Open", api.Record{Kind: 6, Tid: idle, Parts: []int{3}}, api.ErrOther},
	})
	s := filled()
	s.Open = s.Open[1:]
	wantCan(t, "1,999 in Open, 2,000 of all else", s, api.Record{Kind: 6, Tid: idle, Parts: []int{1}}, api.OK)
	s = whole()
	s.Waits[0].Tid = idle
	wantCan(t, "own, prepared", s, api.Record{Kind: 6, Tid: idle, Parts: []int{1}}, api.ErrOther)
}

func TestCanYes(t *testing.T) {
	wantCans(t, whole(), []asked{
		{"own", api.Record{Kind: 7, Tid: idle}, api.OK},
		{"own, with puts", api.Record{Kind: 7, Tid: idle, Puts: tenPuts()}, api.OK},
		{"own, not begun", api.Record{Kind: 7, Tid: id(3, 500)}, api.OK},
		{"in Open", api.Record{Kind: 7, Tid: mine, Puts: tenPuts()}, api.OK},
		{"another broker's", api.Record{Kind: 7, Tid: far}, api.ErrOther},
		{"another broker's, prepared", api.Record{Kind: 7, Tid: yours}, api.ErrOther},
	})
	wantCans(t, filled(), []asked{
		{"own, 2,000 Ends", api.Record{Kind: 7, Tid: idle}, api.ErrFull},
		{"in Open, 2,000 Ends", api.Record{Kind: 7, Tid: id(3, 5000)}, api.ErrFull},
		{"another broker's, 2,000 Ends", api.Record{Kind: 7, Tid: far}, api.ErrOther},
		{"prepared, 2,000 Ends", api.Record{Kind: 7, Tid: id(6, 1)}, api.ErrOther},
	})
	s := filled()
	s.Ends, s.Noes = s.Ends[1:], s.Noes[1:]
	wantCan(t, "1,999 Ends, the greatest numbers", s, api.Record{Kind: 7, Tid: idle}, api.OK)
	wantCan(t, "the same, with a put", s, api.Record{Kind: 7, Tid: idle, Puts: tenPuts()[:1]}, api.ErrFull)
	s = whole()
	s.Waits[0].Tid = idle
	wantCan(t, "own, prepared", s, api.Record{Kind: 7, Tid: idle}, api.ErrOther)
}

func TestCanNo(t *testing.T) {
	for _, parts := range [][]int{nil, {1}, {8}, others(3)} {
		wantCans(t, whole(), []asked{
			{"own", api.Record{Kind: 8, Tid: idle, Parts: parts}, api.OK},
			{"own, not begun", api.Record{Kind: 8, Tid: id(3, 500), Parts: parts}, api.OK},
			{"in Open", api.Record{Kind: 8, Tid: mine, Parts: parts}, api.OK},
			{"another broker's", api.Record{Kind: 8, Tid: far, Parts: parts}, api.ErrOther},
			{"another broker's, prepared", api.Record{Kind: 8, Tid: yours, Parts: parts}, api.ErrOther},
		})
		s := filled()
		wantCans(t, s, []asked{
			{"own, 2,000 Ends", api.Record{Kind: 8, Tid: idle, Parts: parts}, api.ErrFull},
			{"in Open, 2,000 Ends", api.Record{Kind: 8, Tid: id(3, 5000), Parts: parts}, api.ErrFull},
			{"another broker's, 2,000 Ends", api.Record{Kind: 8, Tid: far, Parts: parts}, api.ErrOther},
		})
		s.Noes = nil
		wantCan(t, "2,000 Ends, no Noes", s, api.Record{Kind: 8, Tid: idle, Parts: parts}, api.ErrFull)
		s = filled()
		s.Ends, s.Noes = s.Ends[1:], s.Noes[1:]
		wantCan(t, "1,999 Ends and Noes", s, api.Record{Kind: 8, Tid: idle, Parts: parts}, api.OK)
		s = whole()
		s.Waits[0].Tid = idle
		wantCan(t, "own, prepared", s, api.Record{Kind: 8, Tid: idle, Parts: parts}, api.ErrOther)
	}
	wantCans(t, whole(), []asked{
		{"itself a Part", api.Record{Kind: 8, Tid: idle, Parts: []int{3}}, api.ErrOther},
		{"itself one of the Parts", api.Record{Kind: 8, Tid: mine, Parts: []int{2, 3}}, api.ErrOther},
	})
	wantCan(t, "itself a Part, 2,000 Ends", filled(), api.Record{Kind: 8, Tid: idle, Parts: []int{3}}, api.ErrOther)
}

// There are never more Noes than Ends, so 2,000 of them alone stand against a RNo with Parts just where 2,000 Ends do. So one is asked about that may not be: it has an End less.
func TestCanNoFullOfNoes(t *testing.T) {
	s := filled()
	s.Ends = s.Ends[:1999]
	if err := Can(s, api.Record{Kind: 8, Tid: idle, Parts: []int{1}}); err != api.ErrFull {
		t.Errorf("P10.2: RNo with Parts, 2,000 Noes: %d", err)
	}
	if err := Can(s, api.Record{Kind: 8, Tid: idle}); err != api.OK {
		t.Errorf("P10.2: RNo without Parts, 2,000 Noes: %d", err)
	}
}

func TestCanTold(t *testing.T) {
	var all []asked
	for b := 1; b <= 8; b++ {
		want, wantOther := api.OK, api.ErrNone
		if b == 3 {
			want = api.ErrNone
		}
		if b == 2 {
			wantOther = api.OK
		}
		all = append(all, asked{"in Noes", api.Record{Kind: 9, Tid: toTell, Parts: []int{b}}, want})
		all = append(all, asked{"in Noes, with one Part", api.Record{Kind: 9, Tid: id(3, 5), Parts: []int{b}}, wantOther})
		for _, tid := range []int64{yours, theirs, mine, last, well, ill, idle, far, id(3, 3), id(3, 6)} {
			all = append(all, asked{"not in Noes", api.Record{Kind: 9, Tid: tid, Parts: []int{b}}, api.ErrNone})
		}
	}
	wantCans(t, whole(), all)
	wantCan(t, "all is full", filled(), api.Record{Kind: 9, Tid: id(3, 1000), Parts: []int{7}}, api.OK)
	wantCan(t, "all is full, another Part", filled(), api.Record{Kind: 9, Tid: id(3, 1000), Parts: []int{6}}, api.ErrNone)
}

// The room for what comes: those of Waits are counted with the record's own, whatever it takes away.
func TestCanRoom(t *testing.T) {
	for _, x := range []struct {
		name     string
		id, seq  int64
		ms       int
		waits    []int
		most     int // so many puts there is room for
		evenNone bool
	}{
		{"nothing is there", 1, 1, 0, nil, 10, true},
		{"62 messages", 100, 100, 62, nil, 10, true},
		{"63 messages", 100, 100, 63, nil, 9, true},
		{"71 messages", 100, 100, 71, nil, 1, true},
		{"72 messages", 100, 100, 72, nil, 0, true},
		{"60 messages and 3 that wait", 100, 100, 60, []int{3}, 9, true},
		{"50 messages and 19 that wait, of three", 100, 100, 50, []int{9, 0, 10}, 3, true},
		{"72 that wait", 1, 1, 0, []int{10, 10, 10, 10, 10, 10, 10, 2}, 0, true},
		{"72 messages and 1 that waits", 100, 100, 72, []int{1}, 0, false},
		{"73 that wait", 1, 1, 0, []int{10, 10, 10, 10, 10, 10, 10, 3}, 0, false},
		{"10 Ids", base - 10, 1, 0, nil, 10, true},
		{"9 Ids", base - 9, 1, 0, nil, 9, true},
		{"1 Id", base - 1, 1, 0, nil, 1, true},
		{"no Id", base, 1, 0, nil, 0, true},
		{"9 Ids, 4 of them wait", base - 9, 1, 0, []int{1, 3}, 5, true},
		{"9 Ids, 9 of them wait", base - 9, 1, 0, []int{9}, 0, true},
		{"9 Ids, and 10 wait", base - 9, 1, 0, []int{10}, 0, false},
		{"no Id, and 1 waits", base, 1, 0, []int{1}, 0, false},
		{"10 Seqs", 1, 1<<40 - 10, 0, nil, 10, true},
		{"9 Seqs", 1, 1<<40 - 9, 0, nil, 9, true},
		{"1 Seq", 1, 1<<40 - 1, 0, nil, 1, true},
		{"no Seq", 1, 1 << 40, 0, nil, 0, true},
		{"9 Seqs, 4 of them wait", 1, 1<<40 - 9, 0, []int{1, 3}, 5, true},
		{"9 Seqs, and 10 wait", 1, 1<<40 - 9, 0, []int{10}, 0, false},
		{"no Seq, and 1 waits", 1, 1 << 40, 0, []int{1}, 0, false},
		{"no room of any", base, 1 << 40, 72, nil, 0, true},
	} {
		s := New(3)
		s.NextId, s.NextSeq, s.Ms = x.id, x.seq, messages(3, x.ms)
		for k, n := range x.waits {
			s.Waits = append(s.Waits, api.Branch{Tid: id(6, int64(k+1)), Puts: tenPuts()[:n]})
		}
		for k := range s.Ms {
			s.Ms[k].By = []int64{far, idle, 0}[k%3]
		}
		if !May(s) {
			t.Fatalf("P10.1: %s: May: false", x.name)
		}
		for n := 0; n <= 10; n++ {
			want := api.ErrFull
			if n <= x.most && (n > 0 || x.evenNone) {
				want = api.OK
			}
			wantCan(t, x.name, s, api.Record{Kind: 4, Tid: far, Puts: tenPuts()[:n]}, want)
			wantCan(t, x.name, s, api.Record{Kind: 7, Tid: idle, Puts: tenPuts()[:n]}, want)
		}
	}
}

// Of a state that may not be nothing is said, but that it ends (P0.1).
func TestCanOfWhatMayNotBe(t *testing.T) {
	for _, n := range []int64{math.MinInt64, -1, 0, math.MaxInt64} {
		for _, x := range []change{
			{"NextId", func(s *api.State) { s.NextId = n }},
			{"NextSeq", func(s *api.State) { s.NextSeq = n }},
			{"Tx", func(s *api.State) { s.Tx = n }},
			{"Broker", func(s *api.State) { s.Broker = int(n) }},
			{"Tids", func(s *api.State) { s.Waits[1].Tid, s.Ends[1].Tid, s.Open[1].Tid, s.Noes[1].Tid = n, n, n, n }},
			{"messages", func(s *api.State) { s.Ms[0] = api.Message{Id: n, Seq: n, Count: int(n), By: n} }},
			{"no Parts", func(s *api.State) { s.Noes[0].Parts, s.Open[0].Parts = nil, nil }},
		} {
			s := whole()
			x.turn(&s)
			was := copied(s)
			for _, r := range someRecords(whole()) {
				Can(s, r)
				if now := Apply(s, r); !May(s) && !same(now, was) || !same(s, was) {
					t.Errorf("P10.3: %s is %d: Apply of %s: %s", x.name, n, tellRecord(r), tell(now))
				}
			}
		}
	}
	for _, r := range someRecords(whole()) {
		Can(zero, r)
		if now := Apply(zero, r); !same(now, zero) {
			t.Errorf("P10.3: Apply of %s to the zero state: %s", tellRecord(r), tell(now))
		}
	}
}
