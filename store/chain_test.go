package store

import (
	"slices"
	"testing"

	"postillion/api"
)

// past is what a chain of records has seen of a state, from its beginning on.
type past struct {
	first int64           // the NextId at the beginning
	ends  map[int64]bool  // how each transaction ended
	count map[int64]int   // how many that took it ended not well, of each message
	by    map[int64]int64 // who took it last, of each message
	gone  map[int64]bool
}

// note turns the past by r, which made now of was.
func (p *past) note(was, now api.State, r api.Record) {
	for _, e := range now.Ends {
		if _, is := p.ends[e.Tid]; is {
			continue
		}
		p.ends[e.Tid] = e.Yes
		for _, m := range was.Ms {
			if m.By == e.Tid && e.Yes {
				p.gone[m.Id] = true
			}
			if m.By == e.Tid && !e.Yes {
				p.count[m.Id]++
			}
		}
	}
	if r.Kind == api.RTake {
		p.by[r.Id] = r.Tid
	}
}

// want asks of now what must hold behind each record.
func (p *past) want(t *testing.T, now api.State, r api.Record) {
	t.Helper()
	if len(now.Ends) != len(p.ends) {
		t.Errorf("Q1: behind %s %d ended, of %d", tellRecord(r), len(now.Ends), len(p.ends))
	}
	for _, e := range now.Ends {
		if e.Yes != p.ends[e.Tid] {
			t.Errorf("Q1: behind %s %d ended %v, and before unlike", tellRecord(r), e.Tid, e.Yes)
		}
	}
	stands := map[int64]bool{}
	for _, m := range now.Ms {
		stands[m.Id] = true
		if m.Count != min(p.count[m.Id], 1000) {
			t.Errorf("Q5: behind %s the Count of %d is %d, want %d", tellRecord(r), m.Id, m.Count, p.count[m.Id])
		}
		if _, ended := p.ends[m.By]; ended || m.By != 0 && m.By != p.by[m.Id] {
			t.Errorf("Q2: behind %s %d is By %d, last taken by %d", tellRecord(r), m.Id, m.By, p.by[m.Id])
		}
	}
	for n := p.first; n < now.NextId; n++ {
		at := id(now.Broker, n)
		if stands[at] == p.gone[at] || p.gone[at] && !p.ends[p.by[at]] {
			t.Errorf("Q2: behind %s %d stands: %v, is gone: %v, taken by %d", tellRecord(r), at, stands[at], p.gone[at], p.by[at])
		}
	}
	for _, m := range now.Ms {
		if at := m.Id - id(now.Broker, 0); at < p.first || at >= now.NextId {
			t.Errorf("Q2: behind %s %d stands, which did not come", tellRecord(r), m.Id)
		}
	}
}

// ending is a record by which one that took something comes nearer to its end.
func (d *dice) ending(s api.State) api.Record {
	tid := far
	for _, m := range s.Ms {
		if m.By != 0 && d.throw(2) == 0 {
			tid = m.By
		}
	}
	if tid/base == int64(s.Broker) {
		return api.Record{Kind: 7, Tid: tid, Puts: tenPuts()[:d.throw(3)]}
	}
	if prepared(s, tid) {
		return api.Record{Kind: 5, Tid: tid, Yes: d.throw(3) > 0}
	}
	return api.Record{Kind: 4, Tid: tid, Puts: tenPuts()[:d.throw(3)]}
}

// What the whole keeps, as far as it is one broker's state: how one ended is never unlike (Q1), each message that came is at one place (Q2), and its Count is how many that took it ended not well (Q5).
func TestChains(t *testing.T) {
	d := dice(13)
	taken, gone := 0, 0
	for k := range 60 {
		s := New(1 + k%8)
		if k%3 == 1 {
			s.NextId, s.NextSeq = base-200, 1<<40-200
		}
		p := past{s.NextId, map[int64]bool{}, map[int64]int{}, map[int64]int64{}, map[int64]bool{}}
		for range 200 {
			r := d.record(s)
			if d.throw(4) == 0 {
				r = d.ending(s)
			}
			can := Can(s, r)
			now := Apply(s, r)
			if can == api.OK {
				p.note(s, now, r)
			} else if !same(now, s) {
				t.Fatalf("P10.3: %s, which can't be: %s, was %s", tellRecord(r), tell(now), tell(s))
			}
			p.want(t, now, r)
			if !May(now) || t.Failed() {
				t.Fatalf("P10.3: behind %s: %s, was %s", tellRecord(r), tell(now), tell(s))
			}
			s = now
		}
		taken, gone = taken+len(p.by), gone+len(p.gone)
	}
	if taken < 200 || gone < 100 {
		t.Errorf("only %d messages were taken, %d went", taken, gone)
	}
}

// A transaction over two brokers, as the records of both tell it, to a good end and to a bad one.
func TestTwoBrokers(t *testing.T) {
	for _, yes := range []bool{true, false} {
		tid := id(1, 1)
		one := chain(t, New(1), api.Record{Kind: 1, Tid: tid}, api.Record{Kind: 7, Tid: id(1, 100), Puts: []api.Put{put("a", "here")}},
			api.Record{Kind: 2, Tid: tid, Id: id(1, 1)}, api.Record{Kind: 6, Tid: tid, Parts: []int{2}})
		two := chain(t, New(2), api.Record{Kind: 7, Tid: id(2, 100), Puts: []api.Put{put("b", "there")}},
			api.Record{Kind: 2, Tid: tid, Id: id(2, 1)}, api.Record{Kind: 4, Tid: tid, Puts: []api.Put{put("c", "new")}})
		if yes {
			one = chain(t, one, api.Record{Kind: 7, Tid: tid, Puts: []api.Put{put("d", "new")}})
		} else {
			one = chain(t, one, api.Record{Kind: 8, Tid: tid, Parts: []int{2}})
		}
		two = chain(t, two, api.Record{Kind: 5, Tid: tid, Yes: yes})
		if !yes {
			one = chain(t, one, api.Record{Kind: 9, Tid: tid, Parts: []int{2}})
		}
		wantOne := api.State{Broker: 1, NextId: 3, NextSeq: 3, Tx: 1, Ms: []api.Message{{Id: id(1, 2), Queue: "d", Body: "new", Seq: 2}}, Ends: []api.End{{Tid: tid, Yes: true}, {Tid: id(1, 100), Yes: true}}}
		wantTwo := api.State{Broker: 2, NextId: 3, NextSeq: 3, Ms: []api.Message{{Id: id(2, 2), Queue: "c", Body: "new", Seq: 2}}, Ends: []api.End{{Tid: tid, Yes: true}, {Tid: id(2, 100), Yes: true}}}
		if !yes {
			wantOne.NextId, wantOne.NextSeq, wantOne.Ends[0].Yes, wantOne.Ms = 2, 2, false, []api.Message{{Id: id(1, 1), Queue: "a", Body: "here", Seq: 1, Count: 1}}
			wantTwo.NextId, wantTwo.NextSeq, wantTwo.Ends[0].Yes, wantTwo.Ms = 2, 2, false, []api.Message{{Id: id(2, 1), Queue: "b", Body: "there", Seq: 1, Count: 1}}
		}
		if !same(one, wantOne) || !same(two, wantTwo) {
			t.Errorf("P10.3: ended %v: %s\n%s", yes, tell(one), tell(two))
		}
	}
}

// chain is what those records, each of which can be, make of s.
func chain(t *testing.T, s api.State, records ...api.Record) api.State {
	t.Helper()
	for _, r := range records {
		if err := Can(s, r); err != api.OK {
			t.Errorf("P10.2: Can of %s: %d in %s", tellRecord(r), err, tell(s))
		}
		s = Apply(s, r)
	}
	return s
}

// As many transactions as may end at a broker, and as many messages as may come and go meanwhile.
func TestLongChain(t *testing.T) {
	s := New(4)
	for n := range int64(2000) {
		tid := id(4, n+1)
		if n%4 == 3 {
			tid = id(7, n+1)
			s = chain(t, s, api.Record{Kind: 4, Tid: tid, Puts: tenPuts()[:2]}, api.Record{Kind: 5, Tid: tid, Yes: true})
		} else {
			for _, m := range slices.Clone(s.Ms) {
				if m.By == 0 {
					s = chain(t, s, api.Record{Kind: 2, Tid: tid, Id: m.Id})
				}
			}
			s = chain(t, s, api.Record{Kind: 7, Tid: tid, Puts: tenPuts()[:3]})
		}
		if !May(s) || int64(len(s.Ends)) != n+1 || len(s.Ms) > 5 {
			t.Fatalf("P10.3: behind %d that ended: %s", n+1, tell(s))
		}
	}
	if want := int64(1500*3 + 500*2 + 1); s.NextId != want || s.NextSeq != want {
		t.Errorf("P10.3: NextId %d, NextSeq %d, want %d", s.NextId, s.NextSeq, want)
	}
	for _, r := range []api.Record{{Kind: 3, Tid: far}, {Kind: 7, Tid: id(4, 5000)}, {Kind: 8, Tid: id(4, 5000)}} {
		wantCan(t, "2,000 ended", s, r, api.ErrFull)
	}
	wantRound(t, "2,000 ended", s)
}
