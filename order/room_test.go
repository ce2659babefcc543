package order

import (
	"fmt"
	"slices"
	"strings"
	"testing"

	"postillion/api"
)

func wantQueues(t *testing.T, name string, s api.State, more []api.Put, want ...string) {
	t.Helper()
	if got := Queues(s, more...); !slices.Equal(got, want) {
		t.Errorf("P11.1: %s: Queues with %s: %q, want %q; in %s", name, tell(more), tell(got), tell(want), tell(s))
	}
}

func TestQueues(t *testing.T) {
	ms := api.State{Ms: []api.Message{{Queue: "m", Count: 3}, {Queue: "b", By: loose}, {Queue: "m"}, {Queue: "c"}, {Queue: "a"}}}
	ws := api.State{Waits: []api.Branch{waits(1), waits(2, put("w"), put("b"), put("w")), waits(3, put("a"))}}
	both := api.State{Ms: ms.Ms, Waits: ws.Waits}
	more := []api.Put{put("z"), put("a"), put("z"), put("n")}
	wantQueues(t, "nothing", api.State{}, nil)
	wantQueues(t, "nothing in the lists", api.State{Ms: []api.Message{}, Waits: []api.Branch{}}, []api.Put{})
	wantQueues(t, "what is asked and what is to be told alone", api.State{Broker: 1, Ends: whole().Ends, Open: whole().Open, Noes: whole().Noes}, nil)
	wantQueues(t, "one that waits without puts", api.State{Waits: []api.Branch{waits(1)}}, nil)
	wantQueues(t, "Ms alone", ms, nil, "a", "b", "c", "m")
	wantQueues(t, "Waits alone", ws, nil, "a", "b", "w")
	wantQueues(t, "more alone", api.State{}, more, "a", "n", "z")
	wantQueues(t, "Ms and Waits", both, nil, "a", "b", "c", "m", "w")
	wantQueues(t, "Ms and more", ms, more, "a", "b", "c", "m", "n", "z")
	wantQueues(t, "Waits and more", ws, more, "a", "b", "n", "w", "z")
	wantQueues(t, "all three", both, more, "a", "b", "c", "m", "n", "w", "z")
	wantQueues(t, "the same in all three", api.State{Ms: []api.Message{{Queue: "q"}}, Waits: []api.Branch{waits(1, put("q"))}}, puts(1, "q"), "q")
	wantQueues(t, "the whole", whole(), nil, "a", "bills", "cards", "letters", "zoo")
	wantQueues(t, "the whole and more", whole(), []api.Put{put("b"), put("zoo")}, "a", "b", "bills", "cards", "letters", "zoo")
}

// Names rise byte by byte, those too that may not be.
func TestQueuesOfAnyNames(t *testing.T) {
	want := []string{"", "A", "Z", "a", "a\x00", "aa", "aaaaaaaaa", "ab", "b", "é", "\xff", "\xff\xff"}
	var s api.State
	for k := range want {
		name := want[(k*5+3)%len(want)]
		s.Ms = append(s.Ms, api.Message{Queue: name})
		s.Waits = append(s.Waits, waits(int64(-k), put(name)))
	}
	wantQueues(t, "any names", s, nil, want...)
	wantQueues(t, "any names, and more", s, []api.Put{put("\x00"), put("Z")}, slices.Insert(slices.Clone(want), 1, "\x00")...)
	long := strings.Repeat("x", 100000)
	wantQueues(t, "a long one", api.State{}, []api.Put{put(long + "y"), put(long), put(long + "y")}, long, long+"y")
}

func TestQueuesOfMany(t *testing.T) {
	var s api.State
	var want []string
	for k := range 3000 {
		name := fmt.Sprintf("q%04d", k)
		want = append(want, name)
		s.Ms = append(s.Ms, api.Message{Queue: fmt.Sprintf("q%04d", 2999-k)})
		s.Waits = append(s.Waits, waits(id(1, int64(k+1)), put(name), put(name)))
	}
	wantQueues(t, "many", s, nil, want...)
	wantQueues(t, "many, and more", s, puts(3000, "p"), slices.Insert(want, 0, "p")...)
}

func wantRoom(t *testing.T, name string, s api.State, queue string, want bool, more ...api.Put) {
	t.Helper()
	if Room(s, queue, more...) != want {
		t.Errorf("P11.1: %s: Room of %q with %s: %v; in %s", name, queue, tell(more), !want, tell(s))
	}
}

// filled is a state in which so many of Ms and of Puts of Waits are in that queue, and something in another one; of the messages some are held, some dead.
func filled(queue string, ms, waiting int) api.State {
	s := api.State{Broker: 3, Ms: []api.Message{{Queue: "other"}}, Waits: []api.Branch{waits(1, put("other")), waits(2)}}
	for k := range ms {
		m := api.Message{Id: int64(k), Queue: queue, Seq: int64(k)}
		switch k % 3 {
		case 0:
			m.Count = 3
		case 1:
			m.By = loose
		}
		s.Ms = append(s.Ms, m)
	}
	for k := range waiting {
		at := 1 - k%2
		s.Waits[at].Puts = append(s.Waits[at].Puts, put(queue))
	}
	return s
}

func TestRoomOfOneQueue(t *testing.T) {
	for _, all := range []int{0, 1, 2, 11, 12, 13, 30} {
		for ms := range all + 1 {
			for waiting := range all - ms + 1 {
				more := all - ms - waiting
				name := fmt.Sprint(ms, " messages, ", waiting, " puts that wait, and ", more, " more")
				s := filled("q", ms, waiting)
				wantRoom(t, name, s, "q", all < 12, puts(more, "q")...)
				wantRoom(t, name+", and others", s, "q", all < 12, slices.Concat(puts(20, "z"), puts(more, "q"), puts(1, "z"))...)
				wantRoom(t, name, s, "other", true, puts(more, "q")...)
				wantRoom(t, name, s, "another", true, puts(more, "q")...)
			}
		}
	}
}

// Twelve are too many, whether they are free, held or dead.
func TestRoomOfOneQueueAlike(t *testing.T) {
	for _, m := range []api.Message{{Queue: "q"}, {Queue: "q", By: loose}, {Queue: "q", Count: 1000}, {Queue: "q", Count: 5, By: own}} {
		s := api.State{Ms: slices.Repeat([]api.Message{m}, 11)}
		wantRoom(t, "eleven alike", s, "q", true)
		wantRoom(t, "eleven alike, and one of more", s, "q", false, put("q"))
		s.Ms = append(s.Ms, m)
		wantRoom(t, "twelve alike", s, "q", false)
		wantRoom(t, "twelve alike", s, "p", true)
	}
}

// laid is what stands in s, waits or is of more, each of the names at one of the three, by the digits of how.
func laid(names []string, how int) (api.State, []api.Put) {
	var s api.State
	var more []api.Put
	for k, name := range names {
		switch how % 3 {
		case 0:
			s.Ms = append(s.Ms, api.Message{Queue: name, Count: k, By: int64(k % 2)})
		case 1:
			s.Waits = append(s.Waits, waits(int64(k), put(name)))
		case 2:
			more = append(more, put(name))
		}
		how /= 3
	}
	return s, more
}

func TestRoomOfQueues(t *testing.T) {
	names := []string{"f", "b", "d", "a", "g", "c", "e", "h"}
	for n, ways := 0, 1; n <= len(names); n, ways = n+1, ways*3 {
		for how := range ways {
			s, more := laid(names[:n], how)
			name := fmt.Sprint(n, " queues, laid as ", how)
			wantQueues(t, name, s, more, slices.Sorted(slices.Values(names[:n]))...)
			for _, other := range []string{"", "aa", "x", "Q", "\xff"} {
				wantRoom(t, name, s, other, n < 6, more...)
			}
			for _, there := range names[:n] {
				wantRoom(t, name, s, there, true, more...)
			}
		}
	}
}

// What more has can bring the queue that there was no room for, the twelfth, or the sixth queue.
func TestRoomOfMore(t *testing.T) {
	five, _ := laid([]string{"a", "b", "c", "d", "e"}, 3)
	wantRoom(t, "five others", five, "q", true)
	wantRoom(t, "five others, and more of them", five, "q", true, put("a"), put("e"), put("c"))
	wantRoom(t, "more brings the sixth", five, "q", false, put("f"))
	wantRoom(t, "more brings the sixth, often", five, "q", false, puts(7, "f")...)
	wantRoom(t, "more brings the queue as the sixth", five, "q", true, put("q"))
	wantRoom(t, "more brings the queue as the seventh", five, "q", true, put("f"), put("q"))
	wantRoom(t, "more brings another one behind it", five, "q", true, put("q"), put("f"), put("g"))
	wantRoom(t, "more brings the queue, eleven times", five, "q", true, puts(11, "q")...)
	wantRoom(t, "more brings the queue, twelve times", five, "q", false, puts(12, "q")...)
	wantRoom(t, "more brings the queue among eight, twelve times", five, "q", false, append(puts(12, "q"), put("f"), put("g"))...)
	wantRoom(t, "nothing at all", api.State{}, "q", true)
	wantRoom(t, "nothing at all, and no name", api.State{}, "", true)
	wantRoom(t, "no name, twelve times", api.State{}, "", false, make([]api.Put, 12)...)
	wantRoom(t, "no name, eleven times", api.State{}, "", true, make([]api.Put, 11)...)
	wantRoom(t, "very many", five, "a", true, puts(100000, "b")...)
	wantRoom(t, "very many of it", five, "a", false, puts(100000, "a")...)
	full := filled("q", 6, 5)
	wantRoom(t, "eleven, and more of others", full, "q", true, puts(12, "other")...)
	wantRoom(t, "more brings the twelfth", full, "q", false, put("other"), put("q"))
	wantRoom(t, "another, which more fills", full, "other", false, puts(10, "other")...)
	wantRoom(t, "another, which more nearly fills", full, "other", true, puts(9, "other")...)
}

// Not what a client says of a name counts, but whether it is the same.
func TestRoomOfOtherNames(t *testing.T) {
	s := filled("letters", 12, 0)
	for _, queue := range []string{"letter", "letterss", "Letters", " letters", "letters\x00", ""} {
		wantRoom(t, "a name like that of a full one", s, queue, true)
	}
	wantRoom(t, "the full one", s, string([]byte("letters")), false)
}
