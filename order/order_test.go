package order

import (
	"fmt"
	"math"
	"slices"
	"strings"
	"testing"

	"postillion/api"
)

const base = int64(1) << 32

// id is the n-th id of that broker.
func id(broker int, n int64) int64 { return int64(broker)*base + n }

func put(queue string) api.Put { return api.Put{Queue: queue, Body: "of " + queue} }

// puts are n of that queue.
func puts(n int, queue string) []api.Put {
	var l []api.Put
	for range n {
		l = append(l, put(queue))
	}
	return l
}

func waits(tid int64, p ...api.Put) api.Branch { return api.Branch{Tid: tid, Puts: p} }

// Transactions that have taken something in whole.
var (
	loose    = id(7, 7) // one message
	looser   = id(1, 9) // three messages
	own      = id(3, 4) // of the broker itself, one message
	prepared = id(5, 1) // two messages
	asked    = id(3, 2) // in Open, one message
)

// whole is a state that has something of all. No list of messages stands by rising Id.
func whole() api.State {
	return api.State{
		Broker:  3,
		NextId:  40,
		NextSeq: 60,
		Tx:      5,
		Ms: []api.Message{
			{Id: id(3, 30), Queue: "letters", Body: "dead", Seq: 1, Count: 3},
			{Id: id(3, 9), Queue: "letters", Body: "held", Seq: 2, By: looser},
			{Id: id(3, 8), Queue: "letters", Body: "held often", Seq: 3, Count: 3, By: loose},
			{Id: id(3, 7), Queue: "letters", Body: "the next one", Seq: 4, Count: 2},
			{Id: id(3, 6), Queue: "letters", Body: "behind it", Seq: 5},
			{Id: id(3, 20), Queue: "bills", Body: "held", Seq: 20, Count: 1000, By: looser},
			{Id: id(3, 19), Queue: "bills", Body: "dead", Seq: 21, Count: 1000},
			{Id: id(3, 18), Queue: "bills", Body: "dead too", Seq: 22, Count: 4},
			{Id: id(3, 2), Queue: "zoo", Body: "prepared", Seq: 30, By: prepared},
			{Id: id(3, 1), Queue: "zoo", Body: "prepared too", Seq: 31, By: prepared},
			{Id: id(3, 17), Queue: "zoo", Body: "asked", Seq: 32, By: asked},
			{Id: id(3, 3), Queue: "zoo", Body: "own", Seq: 33, By: own},
			{Id: id(3, 39), Queue: "a", Body: "the only one", Seq: 40, Count: 1},
			{Id: id(3, 5), Queue: "zoo", Body: "held", Seq: 59, Count: 2, By: looser},
		},
		Waits: []api.Branch{waits(id(2, 2)), waits(prepared, put("cards"), put("letters")), waits(id(8, 1), put("cards"))},
		Ends:  []api.End{{Tid: id(2, 1), Yes: true}, {Tid: id(3, 1)}},
		Open:  []api.Pend{{Tid: asked, Parts: []int{1, 2}}, {Tid: id(3, 5), Parts: []int{8}}},
		Noes:  []api.Pend{{Tid: id(3, 1), Parts: []int{4}}},
	}
}

// tell is x, or so much of it as can be read.
func tell(x any) string {
	out := fmt.Sprintf("%+v", x)
	if len(out) > 900 {
		out = out[:900] + " .."
	}
	return out
}

func TestDead(t *testing.T) {
	for _, by := range []int64{0, 1, -1, loose, math.MaxInt64, math.MinInt64} {
		for _, x := range []struct {
			count int
			want  bool
		}{{math.MinInt, false}, {-3, false}, {-1, false}, {0, false}, {1, false}, {2, false}, {3, true}, {4, true}, {999, true}, {1000, true}, {1001, true}, {math.MaxInt, true}} {
			want := x.want && by == 0
			for _, m := range []api.Message{{Count: x.count, By: by}, {Id: id(3, 1), Queue: "letters", Body: "a", Seq: 9, Count: x.count, By: by}} {
				if Dead(m) != want {
					t.Errorf("P11.1: Dead of Count %d and By %d: %v", x.count, by, !want)
				}
			}
		}
	}
}

func wantNext(t *testing.T, name string, s api.State, queue string, want api.Message) {
	t.Helper()
	if m, is := Next(s, queue); m != want || !is {
		t.Errorf("P11.1: %s: Next of %q: %s, %v, want %s; in %s", name, tell(queue), tell(m), is, tell(want), tell(s))
	}
}

func wantNoNext(t *testing.T, name string, s api.State, queue string) {
	t.Helper()
	if m, is := Next(s, queue); m != (api.Message{}) || is {
		t.Errorf("P11.1: %s: Next of %q: %s, %v, want none; in %s", name, tell(queue), tell(m), is, tell(s))
	}
}

func TestNext(t *testing.T) {
	s := whole()
	wantNext(t, "behind a dead one and held ones", s, "letters", api.Message{Id: id(3, 7), Queue: "letters", Body: "the next one", Seq: 4, Count: 2})
	wantNext(t, "the only one", s, "a", api.Message{Id: id(3, 39), Queue: "a", Body: "the only one", Seq: 40, Count: 1})
	wantNoNext(t, "held and dead ones alone", s, "bills")
	wantNoNext(t, "held ones alone", s, "zoo")
	wantNoNext(t, "puts alone", s, "cards")
	for _, queue := range []string{"", "letter", "letterss", "Letters", "aa", "\xff", strings.Repeat("a", 100000)} {
		wantNoNext(t, "other queues alone", s, queue)
		wantNoNext(t, "no messages", api.State{Broker: 3, NextId: 1, NextSeq: 1}, queue)
		wantNoNext(t, "nothing at all", api.State{}, queue)
	}
	s.Ms = []api.Message{{Id: 1, Queue: "q", Seq: 1, Count: 3}, {Id: 2, Queue: "q", Seq: 2, Count: 1000}}
	wantNoNext(t, "dead ones alone", s, "q")
	s.Ms[1].Count = 2
	wantNext(t, "nearly dead", s, "q", s.Ms[1])
	s.Ms[1].By = -1
	wantNoNext(t, "one that is held by whomever", s, "q")
}

// However the list stands, the least Seq is the next one.
func TestNextInAnyOrder(t *testing.T) {
	all := []api.Message{
		{Id: 5, Queue: "q", Body: "c", Seq: 12},
		{Id: 4, Queue: "q", Body: "b", Seq: 11, Count: 2},
		{Id: 9, Queue: "q", Body: "a", Seq: 10, Count: 1},
		{Id: 1, Queue: "q", Body: "dead", Seq: 9, Count: 3},
		{Id: 2, Queue: "q", Body: "held", Seq: 8, By: loose},
		{Id: 3, Queue: "p", Body: "of another queue", Seq: 7},
	}
	permute(all, 0, func() {
		s := api.State{Ms: all}
		wantNext(t, "in any order", s, "q", api.Message{Id: 9, Queue: "q", Body: "a", Seq: 10, Count: 1})
		wantNext(t, "in any order", s, "p", api.Message{Id: 3, Queue: "p", Body: "of another queue", Seq: 7})
	})
}

// permute turns list into each of its orders from that place on, and asks each time.
func permute[T any](list []T, at int, ask func()) {
	if at == len(list) {
		ask()
	}
	for k := at; k < len(list); k++ {
		list[at], list[k] = list[k], list[at]
		permute(list, at+1, ask)
		list[at], list[k] = list[k], list[at]
	}
}

// A state may be of any numbers and names.
func TestNextOfAnyNumbers(t *testing.T) {
	for _, seqs := range [][]int64{{math.MaxInt64}, {math.MinInt64}, {0}, {-1}, {math.MinInt64, math.MaxInt64}, {-1, 0}, {0, 1}, {-2, -1}, {math.MaxInt64 - 1, math.MaxInt64}} {
		for _, queue := range []string{"", "q", "Q \x00\xff", strings.Repeat("q", 5000)} {
			var s api.State
			for k, seq := range seqs {
				s.Ms = append(s.Ms, api.Message{Id: int64(-k), Queue: queue, Seq: seq, Count: -k})
			}
			wantNext(t, "any numbers", s, queue, s.Ms[0])
			slices.Reverse(s.Ms)
			wantNext(t, "any numbers", s, queue, s.Ms[len(s.Ms)-1])
			wantNoNext(t, "any numbers", s, queue+"x")
		}
	}
	wantNext(t, "a message of nothing", api.State{Ms: make([]api.Message, 1)}, "", api.Message{})
}

func wantCounts(t *testing.T, name string, s api.State, queue string, free, held, dead int) {
	t.Helper()
	if f, h, d := Counts(s, queue); f != free || h != held || d != dead {
		t.Errorf("P11.1: %s: Counts of %q: %d, %d, %d, want %d, %d, %d; in %s", name, queue, f, h, d, free, held, dead, tell(s))
	}
}

func TestCounts(t *testing.T) {
	s := whole()
	wantCounts(t, "of each", s, "letters", 2, 2, 1)
	wantCounts(t, "none is free", s, "bills", 0, 1, 2)
	wantCounts(t, "held ones alone", s, "zoo", 0, 5, 0)
	wantCounts(t, "a free one", s, "a", 1, 0, 0)
	wantCounts(t, "puts alone", s, "cards", 0, 0, 0)
	for _, queue := range []string{"", "letter", "letterss", "Letters", "aa", "\xff"} {
		wantCounts(t, "not there", s, queue, 0, 0, 0)
		wantCounts(t, "nothing at all", api.State{}, queue, 0, 0, 0)
	}
	s.Ms[0].Count = 2
	wantCounts(t, "one that was dead is free", s, "letters", 3, 2, 0)
	s.Ms[2].By = 0
	wantCounts(t, "one that was held is dead", s, "letters", 3, 1, 1)
	s.Ms[1].By = 0
	wantCounts(t, "one that was held is free", s, "letters", 4, 0, 1)
	s.Ms[0] = api.Message{Queue: "letters", Count: math.MinInt, By: math.MinInt64}
	wantCounts(t, "one of any numbers", s, "letters", 3, 1, 1)
	many := api.State{}
	for k := range 3000 {
		many.Ms = append(many.Ms, api.Message{Queue: []string{"", "\xff"}[k%2], Count: k % 5, By: int64(k % 3)})
	}
	wantCounts(t, "many, and of no name", many, "", 300, 1000, 200)
	wantCounts(t, "many, of no name that may be", many, "\xff", 300, 1000, 200)
}

func wantHolds(t *testing.T, name string, s api.State, tid int64, want ...int64) {
	t.Helper()
	if ids := Holds(s, tid); !slices.Equal(ids, want) {
		t.Errorf("P11.1: %s: Holds of %d: %v, want %v; in %s", name, tid, ids, want, tell(s))
	}
}

func TestHolds(t *testing.T) {
	s := whole()
	wantHolds(t, "three, of several queues", s, looser, id(3, 5), id(3, 9), id(3, 20))
	wantHolds(t, "one", s, loose, id(3, 8))
	wantHolds(t, "prepared", s, prepared, id(3, 1), id(3, 2))
	wantHolds(t, "in Open", s, asked, id(3, 17))
	wantHolds(t, "nobody: free and dead ones", s, 0, id(3, 6), id(3, 7), id(3, 18), id(3, 19), id(3, 30), id(3, 39))
	for _, tid := range []int64{id(2, 2), id(3, 5), id(2, 1), id(3, 1), id(6, 6), 1, -1, -loose, math.MinInt64, math.MaxInt64} {
		wantHolds(t, "nothing taken", s, tid)
		wantHolds(t, "nothing there", api.State{}, tid)
	}
	wantHolds(t, "nothing there, and nobody", api.State{}, 0)
	for k := range s.Ms {
		s.Ms[k].By = looser
	}
	wantHolds(t, "nobody has taken none", s, 0)
	wantHolds(t, "all", s, looser, id(3, 1), id(3, 2), id(3, 3), id(3, 5), id(3, 6), id(3, 7), id(3, 8), id(3, 9), id(3, 17), id(3, 18), id(3, 19), id(3, 20), id(3, 30), id(3, 39))
	s.Ms = []api.Message{{Id: math.MaxInt64, By: -1}, {Id: 0, By: -1}, {Id: math.MinInt64, By: -1}, {Id: 7}, {Id: -7, By: -1}}
	wantHolds(t, "any numbers", s, -1, math.MinInt64, -7, 0, math.MaxInt64)
}

// However the list stands, what is held rises.
func TestHoldsInAnyOrder(t *testing.T) {
	all := []api.Message{{Id: 6, By: own}, {Id: 5}, {Id: 4, By: own}, {Id: 3}, {Id: 2, By: own}, {Id: 1, By: loose}}
	permute(all, 0, func() {
		wantHolds(t, "in any order", api.State{Ms: all}, own, 2, 4, 6)
		wantHolds(t, "in any order", api.State{Ms: all}, 0, 3, 5)
	})
}

func wantLoose(t *testing.T, name string, s api.State, want ...int64) {
	t.Helper()
	if tids := Loose(s); !slices.Equal(tids, want) {
		t.Errorf("P11.1: %s: Loose: %v, want %v; in %s", name, tids, want, tell(s))
	}
}

func TestLoose(t *testing.T) {
	s := whole()
	wantLoose(t, "each once, rising", s, looser, own, loose)
	s.Open = append(s.Open, api.Pend{Tid: own, Parts: []int{1}})
	wantLoose(t, "one more is in Open", s, looser, loose)
	s.Waits = append([]api.Branch{waits(looser)}, s.Waits...)
	wantLoose(t, "one more is prepared, without puts", s, loose)
	s.Waits = append(s.Waits, waits(loose, put("q")))
	wantLoose(t, "all are prepared, or in Open", s)
	s.Open, s.Waits = nil, nil
	wantLoose(t, "none is prepared, or in Open", s, looser, asked, own, prepared, loose)
	s.Ends = append(s.Ends, api.End{Tid: own}, api.End{Tid: loose, Yes: true})
	s.Noes = append(s.Noes, api.Pend{Tid: own, Parts: []int{1}})
	wantLoose(t, "Ends and Noes turn nothing", s, looser, asked, own, prepared, loose)
	s = whole()
	for k := range s.Ms {
		s.Ms[k].By = 0
	}
	wantLoose(t, "nobody has taken anything", s)
	wantLoose(t, "nothing at all", api.State{})
	for k := range s.Ms {
		s.Ms[k].By = loose
	}
	wantLoose(t, "one has taken all", s, loose)
}

// However the lists stand, and whatever numbers stand in them.
func TestLooseInAnyOrder(t *testing.T) {
	all := []api.Message{{By: 9}, {By: -1}, {By: math.MaxInt64}, {By: math.MinInt64}, {}, {By: 3}, {By: 9}}
	w := []api.Branch{waits(3), waits(8), waits(0), waits(1)}
	o := []api.Pend{{Tid: 5}, {Tid: -1}, {}, {Tid: 4}}
	k := 0
	permute(all, 0, func() {
		wantLoose(t, "in any order", api.State{Ms: all, Waits: w, Open: o}, math.MinInt64, 9, math.MaxInt64)
		k++
		w[k%4], w[k%3] = w[k%3], w[k%4]
		o[k%3], o[k%4] = o[k%4], o[k%3]
	})
}
