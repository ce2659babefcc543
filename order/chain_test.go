package order

import (
	"testing"

	"postillion/api"
	"postillion/store"
)

type dice uint64

func (d *dice) throw(sides int) int {
	*d = *d*6364136223846793005 + 1442695040888963407
	return int(uint64(*d) >> 33 % uint64(sides))
}

func pick[T any](d *dice, list []T) T { return list[d.throw(len(list))] }

// chainQueues are more than there is room for.
var chainQueues = []string{"a", "b", "letters", "q", "zoo", "zz", "zzz", "zzzzzzzz"}

// puts are some, mostly of the first queues.
func (d *dice) puts(most int) []api.Put {
	var l []api.Put
	for range d.throw(most + 1) {
		l = append(l, put(chainQueues[d.throw(1+d.throw(len(chainQueues)))]))
	}
	return l
}

// tids are few, so that they meet again; half of them are the broker's own.
func tids(broker int, round int64) []int64 {
	var l []int64
	for n := range int64(4) {
		l = append(l, id(broker, 20*round+n+1), id(broker%8+1, 20*round+n+1))
	}
	return l
}

// record is one that mostly can be in s, of one of those transactions.
func (d *dice) record(s api.State, all []int64) api.Record {
	tid := pick(d, all)
	switch d.throw(16) {
	case 0:
		return api.Record{Kind: api.RYes, Tid: tid, Puts: d.puts(10)}
	case 1:
		return api.Record{Kind: api.RPrep, Tid: tid, Puts: d.puts(6)}
	case 2:
		return api.Record{Kind: api.RColl, Tid: tid, Parts: []int{s.Broker%8 + 1}}
	case 3:
		return api.Record{Kind: api.RBack, Tid: tid}
	case 4:
		return api.Record{Kind: api.RNo, Tid: tid}
	case 5:
		return api.Record{Kind: api.RDone, Tid: tid, Yes: d.throw(2) == 0}
	case 6, 7:
		if len(s.Ms) > 0 {
			return api.Record{Kind: api.RTake, Tid: tid, Id: pick(d, s.Ms).Id}
		}
	}
	m, _ := Next(s, pick(d, chainQueues))
	return api.Record{Kind: api.RTake, Tid: tid, Id: m.Id}
}

// begin is a state from which a chain goes out: a new one, whole, or one whose messages don't stand by rising Id.
func (d *dice) begin(k int) api.State {
	switch s := store.New(1 + d.throw(8)); k % 3 {
	case 0:
		return s
	case 1:
		return whole()
	default:
		s.NextId, s.NextSeq = 50, 90
		for n := range int64(40) {
			s.Ms = append(s.Ms, api.Message{Id: id(s.Broker, 1+n*7%40), Queue: chainQueues[d.throw(4)], Seq: 2*n + 1, Count: d.throw(5)})
		}
		return s
	}
}

// Along chains of records each answer is what the plain way says.
func TestStepByStep(t *testing.T) {
	d, n := dice(11), seen{}
	for k := range 60 {
		s := d.begin(k)
		if !store.May(s) {
			t.Fatalf("a chain would begin with what may not be: %s", tell(s))
		}
		for i := range 150 {
			all := tids(s.Broker, int64(i/15))
			s = store.Apply(s, d.record(s, all))
			n.want(t, s, d.puts(1+d.throw(14)), append(chainQueues, "", "none", "Q"), append(all, loose, looser, prepared, asked, own))
			if t.Failed() {
				return
			}
		}
	}
	for _, what := range []string{
		"six queues, or more", "holds several", "holds several that don't stand by rising Id", "prepared and holds", "holds nothing", "several are loose", "none is loose",
		"next behind others", "no next one among many", "free, held and dead ones", "no room by more alone", "room by more alone", "no room in a queue", "no room for a queue",
	} {
		if n[what] < 100 {
			t.Errorf("the chains came by %q %d times only", what, n[what])
		}
	}
}

// What the least Seq is next means to those who take: one takes free ones alone, by rising Seq, until none is left.
func TestTakenInOrder(t *testing.T) {
	d := dice(12)
	for k := range 30 {
		s := d.begin(2)
		for _, queue := range chainQueues[:4] {
			free, held, dead := Counts(s, queue)
			seq := int64(0)
			for range free {
				m, is := Next(s, queue)
				if !is || m.Seq <= seq || m.By != 0 || m.Count >= 3 || m.Queue != queue {
					t.Fatalf("Q5: behind Seq %d of %s comes %+v, %v", seq, queue, m, is)
				}
				seq = m.Seq
				s = store.Apply(s, api.Record{Kind: api.RTake, Tid: id(8, int64(k+1)), Id: m.Id})
			}
			wantNoNext(t, "all is taken", s, queue)
			wantCounts(t, "all is taken", s, queue, 0, held+free, dead)
		}
		wantLoose(t, "one has taken all", s, id(8, int64(k+1)))
	}
}

// A message is given back three times, and dead then.
func TestDeadBehindThree(t *testing.T) {
	s := store.Apply(store.New(1), api.Record{Kind: api.RYes, Tid: id(1, 1), Puts: puts(2, "q")})
	first, second := s.Ms[0], s.Ms[1]
	for n := range int64(3) {
		first.Count = int(n)
		wantNext(t, "given back", s, "q", first)
		s = store.Apply(s, api.Record{Kind: api.RTake, Tid: id(2, n+1), Id: first.Id})
		wantNext(t, "the first is taken", s, "q", second)
		wantCounts(t, "the first is taken", s, "q", 1, 1, 0)
		wantLoose(t, "the first is taken", s, id(2, n+1))
		wantHolds(t, "the first is taken", s, id(2, n+1), first.Id)
		wantHolds(t, "the first is taken", s, 0, second.Id)
		s = store.Apply(s, api.Record{Kind: api.RBack, Tid: id(2, n+1)})
		wantLoose(t, "the first is given back", s)
	}
	wantNext(t, "the first is dead", s, "q", second)
	wantCounts(t, "the first is dead", s, "q", 1, 0, 1)
	wantHolds(t, "the first is dead", s, 0, first.Id, second.Id)
	s = store.Apply(s, api.Record{Kind: api.RTake, Tid: id(2, 9), Id: first.Id})
	wantCounts(t, "a dead one is taken all the same", s, "q", 1, 1, 0)
}

// Each that is loose can be given back, and none is loose then.
func TestLooseGoesBack(t *testing.T) {
	d := dice(13)
	given := 0
	for k := range 30 {
		s := d.begin(k)
		all := tids(s.Broker, 0)
		for range 40 {
			s = store.Apply(s, d.record(s, all))
		}
		for _, tid := range Loose(s) {
			r := api.Record{Kind: api.RBack, Tid: tid}
			if err := store.Can(s, r); err != api.OK {
				t.Errorf("P11.1: %d is loose, and can't be given back: %d; in %s", tid, err, tell(s))
			}
			s = store.Apply(s, r)
			wantHolds(t, "given back", s, tid)
			given++
		}
		wantLoose(t, "all were given back", s)
	}
	if given < 20 {
		t.Errorf("only %d were given back", given)
	}
}
