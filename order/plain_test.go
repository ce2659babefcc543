package order

import (
	"fmt"
	"maps"
	"slices"
	"testing"

	"postillion/api"
)

// plain is what is to be said of a state, laid out beforehand in maps: of each message one word, of each transaction what it is.
type plain struct {
	bySeq map[int64]api.Message
	word  map[int64]string // by Id: free, held, dead
	by    map[int64]int64  // by Id
	in    map[string]int   // how many of Ms, and of what is coming, are in a queue
	known map[int64]bool   // what is prepared or in Open
	last  int64            // the NextSeq
}

func plainOf(s api.State, more []api.Put) plain {
	p := plain{map[int64]api.Message{}, map[int64]string{}, map[int64]int64{}, map[string]int{}, map[int64]bool{}, s.NextSeq}
	coming := slices.Clone(more)
	for _, w := range s.Waits {
		p.known[w.Tid] = true
		coming = append(coming, w.Puts...)
	}
	for _, o := range s.Open {
		p.known[o.Tid] = true
	}
	for _, c := range coming {
		p.in[c.Queue]++
	}
	for _, m := range s.Ms {
		p.bySeq[m.Seq], p.by[m.Id] = m, m.By
		p.in[m.Queue]++
		p.word[m.Id] = "held"
		if m.By == 0 {
			p.word[m.Id] = []string{"free", "free", "free", "dead"}[min(m.Count, 3)]
		}
	}
	return p
}

func (p plain) next(queue string) (api.Message, bool) {
	for seq := int64(1); seq < p.last; seq++ {
		if m, is := p.bySeq[seq]; is && m.Queue == queue && p.word[m.Id] == "free" {
			return m, true
		}
	}
	return api.Message{}, false
}

func (p plain) count(queue, word string) int {
	n := 0
	for _, m := range p.bySeq {
		if m.Queue == queue && p.word[m.Id] == word {
			n++
		}
	}
	return n
}

func (p plain) room(queue string) bool {
	if p.in[queue] >= 12 {
		return false
	}
	others := maps.Clone(p.in)
	delete(others, queue)
	return len(others) < len(p.in) || len(others) <= 5
}

func (p plain) holds(tid int64) []int64 {
	return slices.DeleteFunc(slices.Sorted(maps.Keys(p.by)), func(at int64) bool { return p.by[at] != tid })
}

func (p plain) loose() []int64 {
	tids := map[int64]bool{}
	for _, by := range p.by {
		tids[by] = true
	}
	maps.DeleteFunc(tids, func(tid int64, _ bool) bool { return tid == 0 || p.known[tid] })
	return slices.Sorted(maps.Keys(tids))
}

// seen counts what a test came by.
type seen map[string]int

func (n seen) note(what string, is bool) {
	if is {
		n[what]++
	}
}

// want holds all answers about s and more against the plain way.
func (n seen) want(t *testing.T, s api.State, more []api.Put, queues []string, tids []int64) {
	t.Helper()
	was := fmt.Sprintf("%+v %v", s, more)
	p, alone := plainOf(s, more), plainOf(s, nil)
	for _, queue := range queues {
		n.wantQueue(t, s, more, queue, p, alone)
	}
	wantQueues(t, "a chain", s, more, slices.Sorted(maps.Keys(p.in))...)
	wantQueues(t, "a chain", s, nil, slices.Sorted(maps.Keys(alone.in))...)
	n.note("six queues, or more", len(alone.in) >= 6)
	for _, tid := range append(tids, 0) {
		want := p.holds(tid)
		wantHolds(t, "a chain", s, tid, want...)
		n.note("holds several", len(want) > 1)
		n.note("holds several that don't stand by rising Id", len(want) > 1 && !slices.IsSorted(unsorted(s, tid)))
		n.note("prepared and holds", p.known[tid] && len(want) > 0)
		n.note("holds nothing", len(want) == 0)
	}
	loose := p.loose()
	wantLoose(t, "a chain", s, loose...)
	n.note("several are loose", len(loose) > 1)
	n.note("none is loose", len(loose) == 0)
	for _, m := range s.Ms {
		if Dead(m) != (p.word[m.Id] == "dead") {
			t.Errorf("P11.1: a chain: Dead of %+v: %v", m, Dead(m))
		}
	}
	if now := fmt.Sprintf("%+v %v", s, more); now != was {
		t.Errorf("P0.3: a chain: the state was turned: %s, was %s", now, was)
	}
}

// unsorted are the Ids that tid has taken, as they stand.
func unsorted(s api.State, tid int64) []int64 {
	var ids []int64
	for _, m := range s.Ms {
		if m.By == tid {
			ids = append(ids, m.Id)
		}
	}
	return ids
}

// wantQueue holds the answers about one queue against the plain way.
func (n seen) wantQueue(t *testing.T, s api.State, more []api.Put, queue string, p, alone plain) {
	t.Helper()
	if m, is := p.next(queue); is {
		wantNext(t, "a chain", s, queue, m)
		n.note("next behind others", s.Ms[0] != m)
	} else {
		wantNoNext(t, "a chain", s, queue)
		n.note("no next one among many", p.in[queue] > 3)
	}
	free, held, dead := p.count(queue, "free"), p.count(queue, "held"), p.count(queue, "dead")
	wantCounts(t, "a chain", s, queue, free, held, dead)
	n.note("free, held and dead ones", free > 0 && held > 0 && dead > 0)
	wantRoom(t, "a chain", s, queue, p.room(queue), more...)
	wantRoom(t, "a chain", s, queue, alone.room(queue))
	n.note("no room by more alone", !p.room(queue) && alone.room(queue))
	n.note("room by more alone", p.room(queue) && !alone.room(queue))
	n.note("no room in a queue", p.in[queue] >= 12)
	n.note("no room for a queue", p.in[queue] == 0 && !p.room(queue))
}
