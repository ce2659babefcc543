package store

import (
	"math"
	"strings"
	"testing"

	"postillion/api"
)

// someRecords are one of each Kind that could be, and one that may not be.
func someRecords(s api.State) []api.Record {
	b := s.Broker
	return []api.Record{
		{Kind: 1, Tid: id(b, s.Tx+1)},
		{Kind: 2, Tid: far, Id: id(b, 2)},
		{Kind: 3, Tid: far},
		{Kind: 4, Tid: far, Puts: []api.Put{put("q", "x")}},
		{Kind: 5, Tid: yours, Yes: true},
		{Kind: 5, Tid: last},
		{Kind: 6, Tid: id(b, 12), Parts: []int{7}},
		{Kind: 7, Tid: id(b, 4), Puts: []api.Put{put("q", "x")}},
		{Kind: 8, Tid: id(b, 6), Parts: []int{7}},
		{Kind: 9, Tid: id(b, 1), Parts: []int{8}},
		{},
	}
}

// wantMay asks whether s may be, and what hangs on that.
func wantMay(t *testing.T, name string, s api.State, may bool) {
	t.Helper()
	was := copied(s)
	if May(s) != may || May(s) != may {
		t.Errorf("P10.1: %s: May: %v", name, !may)
	}
	b := Encode(s)
	if (b != nil) != may {
		t.Errorf("P10.1: %s: Encode: %d bytes", name, len(b))
	}
	if may {
		wantRound(t, name, s)
	} else {
		for _, r := range someRecords(s) {
			if now := Apply(s, r); !same(now, was) {
				t.Errorf("P10.3: %s, which may not be: Apply of %s: %s", name, tellRecord(r), tell(now))
			}
		}
	}
	if !same(s, was) {
		t.Errorf("P0.3: %s was turned: %s", name, tell(s))
	}
}

// change is a name, and what it makes of a state.
type change struct {
	name string
	turn func(s *api.State)
}

// wantTurns asks of whole, turned in each of those ways, whether it may be; what is turned isn't Eq to what was.
func wantTurns(t *testing.T, may bool, all []change) {
	t.Helper()
	wantMay(t, "whole", whole(), true)
	for _, x := range all {
		s := whole()
		x.turn(&s)
		wantMay(t, x.name, s, may)
		if Eq(s, whole()) || !Eq(s, copied(s)) {
			t.Errorf("P10.1: %s: Eq to what it was: %v, to itself: %v", x.name, Eq(s, whole()), Eq(s, copied(s)))
		}
	}
}

func TestMayNumbers(t *testing.T) {
	wantTurns(t, true, []change{
		{"the greatest NextId", func(s *api.State) { s.NextId = base }},
		{"NextId just above all Ids", func(s *api.State) { s.Ms = s.Ms[:6]; s.NextId = 19 }},
		{"the greatest NextSeq", func(s *api.State) { s.NextSeq = 1 << 40 }},
		{"NextSeq just above all Seqs", func(s *api.State) { s.NextSeq = 39 }},
		{"no Tx", func(s *api.State) { s.Tx = 0 }},
		{"the greatest Tx", func(s *api.State) { s.Tx = 200 }},
		{"both numbers 1 without messages", func(s *api.State) { s.NextId, s.NextSeq, s.Ms = 1, 1, nil }},
	})
	wantTurns(t, false, []change{
		{"NextId 0", func(s *api.State) { s.NextId, s.Ms = 0, nil }},
		{"NextId below 0", func(s *api.State) { s.NextId, s.Ms = -1, nil }},
		{"the least number as NextId", func(s *api.State) { s.NextId = math.MinInt64 }},
		{"NextId above Base", func(s *api.State) { s.NextId = base + 1 }},
		{"the greatest number as NextId", func(s *api.State) { s.NextId = math.MaxInt64 }},
		{"an Id that is not below NextId", func(s *api.State) { s.NextId = 19 }},
		{"NextSeq 0", func(s *api.State) { s.NextSeq, s.Ms = 0, nil }},
		{"NextSeq below 0", func(s *api.State) { s.NextSeq, s.Ms = -1, nil }},
		{"the least number as NextSeq", func(s *api.State) { s.NextSeq = math.MinInt64 }},
		{"NextSeq above 2^40", func(s *api.State) { s.NextSeq = 1<<40 + 1 }},
		{"the greatest number as NextSeq", func(s *api.State) { s.NextSeq = math.MaxInt64 }},
		{"a Seq that is not below NextSeq", func(s *api.State) { s.NextSeq = 38 }},
		{"a Seq far above NextSeq", func(s *api.State) { s.NextSeq = 1 }},
		{"Tx below 0", func(s *api.State) { s.Tx = -1 }},
		{"Tx 201", func(s *api.State) { s.Tx = 201 }},
		{"Tx 65536, of which sixteen bits are 0", func(s *api.State) { s.Tx = 65536 }},
		{"the least number as Tx", func(s *api.State) { s.Tx = math.MinInt64 }},
		{"the greatest number as Tx", func(s *api.State) { s.Tx = math.MaxInt64 }},
	})
}

func TestMayBroker(t *testing.T) {
	for b := 1; b <= 8; b++ {
		s := New(b)
		wantMay(t, "a new one", s, true)
		s.NextId, s.NextSeq, s.Tx = base, 1<<40, 200
		wantMay(t, "a new one with the greatest numbers", s, true)
		s = whole()
		s.Broker = b
		wantMay(t, "whole, of another broker", s, b == 3)
	}
	for _, b := range []int{math.MinInt, -1, 0, 9, 65537, 65539, 1<<32 + 3, math.MaxInt} {
		s := whole()
		s.Broker = b
		wantMay(t, "whole, of no broker", s, false)
		s = New(1)
		s.Broker = b
		wantMay(t, "a new one, of no broker", s, false)
	}
	wantMay(t, "the zero state", zero, false)
}

func TestMayMessages(t *testing.T) {
	wantTurns(t, true, []change{
		{"the least Seq", func(s *api.State) { s.Ms[0].Seq = 1 }},
		{"Seqs one behind the other", func(s *api.State) { s.Ms[3].Seq = 29 }},
		{"the greatest Seq", func(s *api.State) { s.Ms[6].Seq = 39 }},
		{"the least Id", func(s *api.State) { s.Ms = s.Ms[4:]; s.Ms[0].Id, s.Ms[1].Id = id(3, 1), id(3, 2) }},
		{"a queue of eight letters", func(s *api.State) { s.Ms[1].Queue = "abcdefgh" }},
		{"a body of sixty bytes", func(s *api.State) { s.Ms[1].Body = some }},
		{"an empty body", func(s *api.State) { s.Ms[6].Body = "" }},
		{"no Count", func(s *api.State) { s.Ms[4].Count = 0 }},
		{"the greatest Count", func(s *api.State) { s.Ms[0].Count = 1000 }},
		{"a message that nobody took any more", func(s *api.State) { s.Ms[0].By = 0 }},
		{"a message taken by one that is unknown", func(s *api.State) { s.Ms[0].By = far }},
		{"a message taken by the broker's own", func(s *api.State) { s.Ms[0].By = idle }},
		{"a message taken by one that is prepared", func(s *api.State) { s.Ms[1].By = last }},
		{"a message taken by one in Open", func(s *api.State) { s.Ms[1].By = mine }},
		{"no messages", func(s *api.State) { s.Ms = nil }},
		{"more than twelve in a queue", func(s *api.State) { s.Ms = messages(3, 13); s.NextId = 100; s.NextSeq = 100 }},
	})
	turns := []change{
		{"Seq 0", func(s *api.State) { s.Ms[0].Seq = 0 }},
		{"Seq below 0", func(s *api.State) { s.Ms[0].Seq = -1 }},
		{"the least number as Seq", func(s *api.State) { s.Ms[0].Seq = math.MinInt64 }},
		{"one Seq twice", func(s *api.State) { s.Ms[3].Seq = 7 }},
		{"Seqs that fall", func(s *api.State) { s.Ms[3].Seq = 6 }},
		{"a first Seq above all", func(s *api.State) { s.Ms[0].Seq = 39 }},
		{"a last Seq below all", func(s *api.State) { s.Ms[6].Seq = 4 }},
		{"two that changed places", func(s *api.State) { s.Ms[0], s.Ms[1] = s.Ms[1], s.Ms[0] }},
		{"the NextSeq as Seq", func(s *api.State) { s.Ms[6].Seq = 40 }},
		{"the greatest number as Seq", func(s *api.State) { s.Ms[6].Seq = math.MaxInt64 }},
		{"one Id twice, side by side", func(s *api.State) { s.Ms[1].Id = s.Ms[0].Id }},
		{"one Id twice, far off", func(s *api.State) { s.Ms[6].Id = s.Ms[0].Id }},
		{"the NextId as Id", func(s *api.State) { s.Ms[6].Id = id(3, 20) }},
		{"an Id of the broker below", func(s *api.State) { s.Ms[0].Id = id(2, 7) }},
		{"an Id of the broker above", func(s *api.State) { s.Ms[0].Id = id(4, 7) }},
		{"no queue", func(s *api.State) { s.Ms[0].Queue = "" }},
		{"a queue of nine letters", func(s *api.State) { s.Ms[0].Queue = "abcdefghi" }},
		{"a queue of a great letter", func(s *api.State) { s.Ms[6].Queue = "Q" }},
		{"a body of 61 bytes", func(s *api.State) { s.Ms[6].Body = some + "x" }},
		{"a body of 65,536 bytes", func(s *api.State) { s.Ms[6].Body = strings.Repeat("x", 65536) }},
		{"Count below 0", func(s *api.State) { s.Ms[0].Count = -1 }},
		{"Count 1,001", func(s *api.State) { s.Ms[6].Count = 1001 }},
		{"Count 65,536", func(s *api.State) { s.Ms[6].Count = 65536 }},
		{"the least number as Count", func(s *api.State) { s.Ms[6].Count = math.MinInt }},
		{"the greatest number as Count", func(s *api.State) { s.Ms[6].Count = math.MaxInt }},
		{"By one that ended well", func(s *api.State) { s.Ms[0].By = well }},
		{"By one that ended not well", func(s *api.State) { s.Ms[6].By = ill }},
		{"By one of Noes", func(s *api.State) { s.Ms[1].By = toTell }},
		{"73 messages", func(s *api.State) { s.Ms = messages(3, 73); s.NextId = 100; s.NextSeq = 100 }},
	}
	for _, no := range noTids {
		turns = append(turns, change{"an Id that is none", func(s *api.State) { s.Ms[1].Id = no }}, change{"By that is none", func(s *api.State) { s.Ms[1].By = no }})
	}
	turns = append(turns, change{"Id 0", func(s *api.State) { s.Ms[1].Id = 0 }})
	wantTurns(t, false, turns)
}

// messages are n of that broker, of as few queues as there can be, by rising Id and Seq.
func messages(broker, n int) []api.Message {
	var ms []api.Message
	for k := range n {
		ms = append(ms, api.Message{Id: id(broker, int64(k+1)), Queue: "q", Seq: int64(k + 1)})
	}
	return ms
}

// As many of each list as may be, and one more.
func TestMayMany(t *testing.T) {
	for _, n := range []int{71, 72, 73, 74, 1000, 65536 + 2} {
		s := api.State{Broker: 8, NextId: base, NextSeq: 1 << 40, Ms: messages(8, n)}
		wantMay(t, "many messages", s, n <= 72)
	}
	for _, n := range []int{1999, 2000, 2001, 2002} {
		waits, ends, open, noes := New(8), New(8), New(8), New(8)
		for k := range int64(n) {
			waits.Waits = append(waits.Waits, api.Branch{Tid: id(1, k+1)})
			ends.Ends = append(ends.Ends, api.End{Tid: id(7, k+1), Yes: k%3 == 0})
			open.Open = append(open.Open, api.Pend{Tid: id(8, k+1), Parts: []int{1 + int(k%7)}})
			noes.Ends = append(noes.Ends, api.End{Tid: id(8, k+1)})
			noes.Noes = append(noes.Noes, api.Pend{Tid: id(8, k+1), Parts: []int{1 + int(k%7)}})
		}
		wantMay(t, "many Waits", waits, n <= 2000)
		wantMay(t, "many Ends", ends, n <= 2000)
		wantMay(t, "many in Open", open, n <= 2000)
		wantMay(t, "many Noes", noes, n <= 2000)
		all := api.State{Broker: 8, NextId: 200, NextSeq: 200, Tx: 200, Ms: messages(8, 72), Waits: waits.Waits, Ends: noes.Ends, Noes: noes.Noes}
		for k := range int64(n) {
			all.Open = append(all.Open, api.Pend{Tid: id(8, 1e6+k), Parts: others(8)})
			all.Ms[k%72].By = id(1, k+1)
		}
		wantMay(t, "many of all", all, n <= 2000)
	}
}

func TestMayWaits(t *testing.T) {
	wantTurns(t, true, []change{
		{"ten puts", func(s *api.State) { s.Waits[0].Puts = tenPuts() }},
		{"no puts", func(s *api.State) { s.Waits[2].Puts = nil }},
		{"ten puts of each", func(s *api.State) { s.Waits[0].Puts, s.Waits[1].Puts = tenPuts(), tenPuts() }},
		{"the least Tid", func(s *api.State) { s.Waits[0].Tid = base + 1; s.Waits = s.Waits[:1] }},
		{"a Tid just above", func(s *api.State) { s.Waits[0].Tid = yours - 1 }},
		{"the broker's own", func(s *api.State) { s.Waits[0].Tid = idle }},
		{"none", func(s *api.State) { s.Waits = nil }},
	})
	turns := []change{
		{"eleven puts", func(s *api.State) { s.Waits[1].Puts = append(tenPuts(), put("q", "")) }},
		{"65,536 puts", func(s *api.State) { s.Waits[1].Puts = make([]api.Put, 65536) }},
		{"a put without a queue", func(s *api.State) { s.Waits[1].Puts[1].Queue = "" }},
		{"a put of a long queue", func(s *api.State) { s.Waits[1].Puts[1].Queue = "abcdefghi" }},
		{"a put of a long body", func(s *api.State) { s.Waits[2].Puts[9].Body = some + "x" }},
		{"a Tid twice", func(s *api.State) { s.Waits[0].Tid = yours }},
		{"Tids that fall", func(s *api.State) { s.Waits[0], s.Waits[1] = s.Waits[1], s.Waits[0] }},
		{"a last Tid that is the least", func(s *api.State) { s.Waits[2].Tid = id(1, 1) }},
		{"one that ended well", func(s *api.State) { s.Waits[0].Tid = well }},
		{"one that ended not well", func(s *api.State) { s.Waits = append(s.Waits[:2], api.Branch{Tid: ill}) }},
		{"one of Noes", func(s *api.State) { s.Waits[0].Tid = toTell }},
		{"one in Open", func(s *api.State) { s.Waits[0].Tid = mine }},
		{"another one in Open", func(s *api.State) { s.Waits[0].Tid = id(3, 6) }},
		{"Tid 0", func(s *api.State) { s.Waits[0].Tid = 0 }},
	}
	for _, no := range noTids {
		turns = append(turns, change{"a first Tid that is none", func(s *api.State) { s.Waits[0].Tid = no }}, change{"a last Tid that is none", func(s *api.State) { s.Waits[2].Tid = no }})
	}
	wantTurns(t, false, turns)
}

func TestMayEnds(t *testing.T) {
	wantTurns(t, true, []change{
		{"another end", func(s *api.State) { s.Ends[0].Yes = false }},
		{"another end of the last", func(s *api.State) { s.Ends[4].Yes = true }},
		{"one more, ahead of all", func(s *api.State) { s.Ends = append([]api.End{{Tid: base + 1}}, s.Ends...); s.Waits = nil }},
		{"the greatest Tid", func(s *api.State) { s.Waits = nil; s.Ends = append(s.Ends, api.End{Tid: last, Yes: true}) }},
		{"none", func(s *api.State) { s.Ends, s.Noes = nil, nil }},
	})
	turns := []change{
		{"a Tid twice", func(s *api.State) { s.Ends[2].Tid = toTell }},
		{"a Tid twice, unlike", func(s *api.State) { s.Ends[0] = api.End{Tid: toTell, Yes: true} }},
		{"Tids that fall", func(s *api.State) { s.Ends[0], s.Ends[4] = s.Ends[4], s.Ends[0] }},
		{"Tids that fall at the end", func(s *api.State) { s.Ends[4].Tid = id(3, 4) }},
		{"Tid 0", func(s *api.State) { s.Ends[0].Tid = 0 }},
	}
	for _, no := range noTids {
		turns = append(turns, change{"a first Tid that is none", func(s *api.State) { s.Ends[0].Tid = no }}, change{"a last Tid that is none", func(s *api.State) { s.Ends[4].Tid = no }})
	}
	wantTurns(t, false, turns)
}

// noParts are Parts that may not be, of a transaction of broker 3.
var noParts = [][]int{nil, {}, {3}, {1, 3}, {3, 8}, {0}, {9}, {-1}, {65537}, {math.MinInt}, {math.MaxInt}, {1, 1}, {2, 1}, {8, 7}, {1, 4, 2}, {0, 1}, {1, 9}, {1, 2, 3, 4, 5, 6, 7}, {1, 2, 4, 5, 6, 7, 8, 8}, {1, 2, 3, 4, 5, 6, 7, 8}, make([]int, 65537)}

func TestMayOpen(t *testing.T) {
	turns := []change{
		{"another broker's", func(s *api.State) { s.Open[0].Tid = far }},
		{"another broker's, above", func(s *api.State) { s.Open[1].Tid = id(4, 4) }},
		{"a Tid twice", func(s *api.State) { s.Open[1].Tid = mine }},
		{"Tids that fall", func(s *api.State) { s.Open[0], s.Open[1] = s.Open[1], s.Open[0] }},
		{"one that ended well", func(s *api.State) { s.Open[0].Tid = id(3, 3) }},
		{"one that ended not well", func(s *api.State) { s.Open[0].Tid = id(3, 5) }},
		{"one of Noes", func(s *api.State) { s.Open[0].Tid = toTell }},
		{"one that is prepared", func(s *api.State) { s.Waits[0].Tid = mine }},
		{"another one that is prepared", func(s *api.State) { s.Waits[0].Tid = id(3, 6) }},
		{"Tid 0", func(s *api.State) { s.Open[0].Tid = 0 }},
	}
	for _, no := range noTids {
		turns = append(turns, change{"a first Tid that is none", func(s *api.State) { s.Open[0].Tid = no }}, change{"a last Tid that is none", func(s *api.State) { s.Open[1].Tid = no }})
	}
	for _, parts := range noParts {
		turns = append(turns, change{"Parts of the first", func(s *api.State) { s.Open[0].Parts = parts }}, change{"Parts of the last", func(s *api.State) { s.Open[1].Parts = parts }})
	}
	wantTurns(t, false, turns)
	wantTurns(t, true, []change{
		{"all others as Parts", func(s *api.State) { s.Open[0].Parts = others(3) }},
		{"one Part", func(s *api.State) { s.Open[0].Parts = []int{4} }},
		{"one more than began", func(s *api.State) { s.Open[1].Tid = id(3, 1<<32-1) }},
		{"a Tid just above", func(s *api.State) { s.Open[1].Tid = mine + 3 }},
		{"none", func(s *api.State) { s.Open = nil }},
	})
}

func TestMayNoes(t *testing.T) {
	turns := []change{
		{"another broker's, which ended not well", func(s *api.State) { s.Noes[1].Tid = ill }},
		{"another broker's, which ended well", func(s *api.State) { s.Noes[0].Tid = well }},
		{"a Tid twice", func(s *api.State) { s.Noes[1].Tid = toTell }},
		{"Tids that fall", func(s *api.State) { s.Noes[0], s.Noes[1] = s.Noes[1], s.Noes[0] }},
		{"one that ended well", func(s *api.State) { s.Noes[1].Tid = id(3, 3) }},
		{"one that ended well instead", func(s *api.State) { s.Ends[1].Yes = true }},
		{"another one that ended well instead", func(s *api.State) { s.Ends[3].Yes = true }},
		{"one in Open", func(s *api.State) { s.Noes[1].Tid = mine }},
		{"one that is unknown", func(s *api.State) { s.Noes[1].Tid = idle }},
		{"an end less", func(s *api.State) { s.Ends = append(s.Ends[:3:3], s.Ends[4]) }},
		{"no ends", func(s *api.State) { s.Ends = nil }},
		{"Tid 0", func(s *api.State) { s.Noes[0].Tid = 0 }},
	}
	for _, no := range noTids {
		turns = append(turns, change{"a first Tid that is none", func(s *api.State) { s.Noes[0].Tid = no }}, change{"a last Tid that is none", func(s *api.State) { s.Noes[1].Tid = no }})
	}
	for _, parts := range noParts {
		turns = append(turns, change{"Parts of the first", func(s *api.State) { s.Noes[0].Parts = parts }}, change{"Parts of the last", func(s *api.State) { s.Noes[1].Parts = parts }})
	}
	wantTurns(t, false, turns)
	wantTurns(t, true, []change{
		{"all others as Parts", func(s *api.State) { s.Noes[1].Parts = others(3) }},
		{"one Part", func(s *api.State) { s.Noes[0].Parts = []int{4} }},
		{"one less", func(s *api.State) { s.Noes = s.Noes[1:] }},
		{"none", func(s *api.State) { s.Noes = nil }},
	})
}

// Long lists of all kinds, which may not be, are asked about in no more than their length.
func TestLongLists(t *testing.T) {
	const long = 1 << 17
	s := whole()
	s.Ms, s.Waits, s.Ends = make([]api.Message, long), make([]api.Branch, long), make([]api.End, long)
	s.Open, s.Noes = make([]api.Pend, long), make([]api.Pend, long)
	if May(s) || Encode(s) != nil || !Eq(s, s) {
		t.Error("P0.1: a state of long lists may not be")
	}
	ends := New(8)
	for k := range int64(65536 + 1) {
		ends.Ends = append(ends.Ends, api.End{Tid: id(7, k+1)})
	}
	if May(ends) || Encode(ends) != nil {
		t.Error("P10.1: a state of 65,537 Ends may not be")
	}
	if now := Apply(s, api.Record{Kind: 3, Tid: far}); !Eq(now, s) {
		t.Error("P10.3: Apply of a state that may not be is not that state")
	}
	for _, r := range someRecords(whole()) {
		Can(s, r)
	}
}
