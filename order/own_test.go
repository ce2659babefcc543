package order

import (
	"fmt"
	"slices"
	"testing"

	"postillion/api"
)

// widened is list with room behind it, in which something stands.
func widened[T any](list []T, behind ...T) []T {
	return append(slices.Clip(slices.Clone(list)), behind...)[:len(list)]
}

// roomy is s in memory of its own, with room behind each list; what stands there would turn the answers.
func roomy(s api.State) api.State {
	s.Ms = widened(s.Ms, api.Message{Id: -1, Queue: "behind", Seq: -1}, api.Message{Id: -2, Queue: "letters", Seq: -2}, api.Message{Id: -3, Queue: "letters", By: -3})
	s.Waits = widened(s.Waits, waits(looser, put("behind")), waits(loose))
	for k := range s.Waits {
		s.Waits[k].Puts = widened(s.Waits[k].Puts, put("beyond"), put("letters"))
	}
	s.Ends = widened(s.Ends, api.End{Tid: own, Yes: true})
	s.Open = widened(s.Open, api.Pend{Tid: own}, api.Pend{Tid: loose})
	for k := range s.Open {
		s.Open[k].Parts = widened(s.Open[k].Parts, 7)
	}
	s.Noes = widened(s.Noes, api.Pend{Tid: own})
	for k := range s.Noes {
		s.Noes[k].Parts = widened(s.Noes[k].Parts, 7)
	}
	return s
}

// opened tells of s with all that stands in the room behind its lists.
func opened(s api.State) string {
	s.Ms, s.Waits, s.Ends = s.Ms[:cap(s.Ms)], slices.Clone(s.Waits[:cap(s.Waits)]), s.Ends[:cap(s.Ends)]
	for k, w := range s.Waits {
		s.Waits[k].Puts = w.Puts[:cap(w.Puts)]
	}
	s.Open, s.Noes = openedPends(s.Open), openedPends(s.Noes)
	return fmt.Sprintf("%+v", s)
}

func openedPends(pends []api.Pend) []api.Pend {
	pends = slices.Clone(pends[:cap(pends)])
	for k, p := range pends {
		pends[k].Parts = p.Parts[:cap(p.Parts)]
	}
	return pends
}

// askedQueues and askedTids are what is asked about in these tests.
var (
	askedQueues = []string{"", "a", "b", "bills", "cards", "letters", "zoo", "zz", "behind", "beyond"}
	askedTids   = []int64{0, 1, -1, -3, loose, looser, own, prepared, asked, id(2, 2), id(8, 1)}
)

// answers are all answers about s and more, in words.
func answers(s api.State, more []api.Put) string {
	out := fmt.Sprintf("%q %q %v\n", Queues(s), Queues(s, more...), Loose(s))
	for _, queue := range askedQueues {
		m, is := Next(s, queue)
		free, held, dead := Counts(s, queue)
		out += fmt.Sprintln(queue, m, is, free, held, dead, Room(s, queue), Room(s, queue, more...))
	}
	for _, tid := range askedTids {
		out += fmt.Sprintln(tid, Holds(s, tid))
	}
	for _, m := range s.Ms {
		out += fmt.Sprintln(m.Id, Dead(m))
	}
	return out
}

// ownStates are some that may be, and some that may not.
func ownStates() []api.State {
	mixed := whole()
	slices.Reverse(mixed.Ms)
	slices.Reverse(mixed.Waits)
	slices.Reverse(mixed.Open)
	mixed.Waits[0].Puts = []api.Put{put("zz"), put("b"), put("zz"), put("a")}
	return []api.State{whole(), mixed, filled("letters", 5, 6), filled("zoo", 7, 6), {Broker: 3, NextId: 1, NextSeq: 1}, {}}
}

// ownMore are lists of puts, none of which stand by rising names.
func ownMore() [][]api.Put {
	return [][]api.Put{nil, {put("zz")}, {put("zoo"), put("b"), put("letters"), put("b"), put("a")}, append(puts(11, "zz"), put("b"))}
}

// Nothing that is handed in is turned, the room behind it neither; and that room is not read.
func TestNothingIsTurned(t *testing.T) {
	for _, was := range ownStates() {
		for _, asked := range ownMore() {
			s, more := roomy(was), widened(asked, put("behind"), put("letters"))
			wholeS, wholeMore := opened(s), slices.Clone(more[:cap(more)])
			if got, want := answers(s, more), answers(was, asked); got != want {
				t.Errorf("P0.3: with room behind the lists the answers are\n%s, want\n%s", got, want)
			}
			if opened(s) != wholeS || !slices.Equal(more[:cap(more)], wholeMore) {
				t.Errorf("P0.3: what was handed in was turned: %s, %v, was %s, %v", opened(s), more[:cap(more)], wholeS, wholeMore)
			}
		}
	}
}

// fill writes x into all of list and the room behind it.
func fill[T any](list []T, x T) {
	list = list[:cap(list)]
	for k := range list {
		list[k] = x
	}
}

// The lists that are answered may be written into, the room behind them too, and nothing else is changed by that.
func TestAnswersAreNew(t *testing.T) {
	for _, was := range ownStates() {
		for _, asked := range ownMore() {
			s, more := roomy(was), widened(asked, put("behind"))
			wholeS, wholeMore, want := opened(s), slices.Clone(more[:cap(more)]), answers(s, more)
			others := [][]string{Queues(s, more...), Queues(s)}
			otherIds := [][]int64{Holds(s, 0), Holds(s, looser), Loose(s)}
			told := fmt.Sprintf("%q %v", others, otherIds)
			fill(Queues(s, more...), "#")
			fill(Queues(s), "#")
			fill(Holds(s, 0), -9)
			fill(Holds(s, looser), -9)
			fill(Loose(s), -9)
			if got := answers(s, more); got != want {
				t.Errorf("P0.3: answers were written into, and later ones are\n%s, want\n%s", got, want)
			}
			if got := fmt.Sprintf("%q %v", others, otherIds); got != told {
				t.Errorf("P0.3: answers were written into, and others are %s, want %s", got, told)
			}
			if opened(s) != wholeS || !slices.Equal(more[:cap(more)], wholeMore) {
				t.Errorf("P0.3: answers were written into, and what was handed in is %s, %v, was %s, %v", opened(s), more[:cap(more)], wholeS, wholeMore)
			}
		}
	}
}

// What was handed in may be turned behind a call, and what was answered stays.
func TestAnswersStay(t *testing.T) {
	for _, was := range ownStates() {
		for _, asked := range ownMore() {
			s, more := roomy(was), slices.Clone(asked)
			names, ids, none, tids := Queues(s, more...), Holds(s, looser), Holds(s, 0), Loose(s)
			next, is := Next(s, "letters")
			want := fmt.Sprintf("%q %v %v %v %+v %v", names, ids, none, tids, next, is)
			for _, w := range s.Waits {
				fill(w.Puts, put("#"))
			}
			fill(s.Ms, api.Message{Id: -9, Queue: "#", By: -9})
			fill(s.Waits, waits(-9))
			fill(s.Open, api.Pend{Tid: -9})
			fill(more, put("#"))
			if got := fmt.Sprintf("%q %v %v %v %+v %v", names, ids, none, tids, next, is); got != want {
				t.Errorf("P0.3: what was handed in was turned, and the answers are %s, want %s", got, want)
			}
		}
	}
}

// A nil list is like an empty one.
func TestNilIsEmpty(t *testing.T) {
	empty := api.State{Ms: []api.Message{}, Waits: []api.Branch{}, Ends: []api.End{}, Open: []api.Pend{}, Noes: []api.Pend{}}
	for _, more := range ownMore() {
		if got, want := answers(empty, more), answers(api.State{}, more); got != want {
			t.Errorf("P0.4: with empty lists the answers are\n%s, with nil ones\n%s", got, want)
		}
	}
	for _, s := range append(ownStates(), empty) {
		if got, want := answers(s, []api.Put{}), answers(s, nil); got != want {
			t.Errorf("P0.4: with empty more the answers are\n%s, with nil\n%s", got, want)
		}
	}
}

// The same is answered of the same, whatever was asked between.
func TestAskedTwice(t *testing.T) {
	var all []string
	for round := range 3 {
		k := 0
		for _, s := range ownStates() {
			for _, more := range ownMore() {
				got := answers(s, more)
				if round == 0 {
					all = append(all, got)
				} else if got != all[k] {
					t.Errorf("P0.5: in round %d the answers are\n%s, and were\n%s", round, got, all[k])
				}
				k++
			}
		}
	}
}
