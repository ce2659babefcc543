package store

import (
	"math"
	"slices"
	"testing"

	"postillion/api"
)

// wantEq asks whether a and b are the same, both ways and twice.
func wantEq(t *testing.T, name string, a, b api.State, same bool) {
	t.Helper()
	for range 2 {
		if Eq(a, b) != same || Eq(b, a) != same {
			t.Errorf("P10.1: %s: Eq of %s and %s: want %v", name, tell(a), tell(b), same)
		}
	}
}

func TestEqSame(t *testing.T) {
	wantEq(t, "zero", zero, zero, true)
	wantEq(t, "whole", whole(), whole(), true)
	wantEq(t, "whole and zero", whole(), zero, false)
	wantEq(t, "new and zero", New(1), zero, false)
	for a := 1; a <= 8; a++ {
		for b := 1; b <= 8; b++ {
			wantEq(t, "two new ones", New(a), New(b), a == b)
		}
	}
	one := whole()
	wantEq(t, "one and itself", one, one, true)
}

// Each part by itself, of a whole state and of a zero one, also where neither may be.
func TestEqParts(t *testing.T) {
	for _, x := range []change{
		{"Broker", func(s *api.State) { s.Broker++ }},
		{"Broker, high up", func(s *api.State) { s.Broker += 1 << 32 }},
		{"NextId", func(s *api.State) { s.NextId-- }},
		{"NextId, high up", func(s *api.State) { s.NextId = math.MinInt64 }},
		{"NextSeq", func(s *api.State) { s.NextSeq++ }},
		{"NextSeq, high up", func(s *api.State) { s.NextSeq = math.MaxInt64 }},
		{"Tx", func(s *api.State) { s.Tx++ }},
		{"Tx, high up", func(s *api.State) { s.Tx += 1 << 16 }},
		{"a message more", func(s *api.State) { s.Ms = append(s.Ms, api.Message{}) }},
		{"a message ahead", func(s *api.State) { s.Ms = append([]api.Message{{}}, s.Ms...) }},
		{"a Wait more", func(s *api.State) { s.Waits = append(s.Waits, api.Branch{}) }},
		{"a Wait ahead", func(s *api.State) { s.Waits = append([]api.Branch{{}}, s.Waits...) }},
		{"an End more", func(s *api.State) { s.Ends = append(s.Ends, api.End{}) }},
		{"an End ahead", func(s *api.State) { s.Ends = append([]api.End{{}}, s.Ends...) }},
		{"one in Open more", func(s *api.State) { s.Open = append(s.Open, api.Pend{}) }},
		{"one in Open ahead", func(s *api.State) { s.Open = append([]api.Pend{{}}, s.Open...) }},
		{"one in Noes more", func(s *api.State) { s.Noes = append(s.Noes, api.Pend{}) }},
		{"one in Noes ahead", func(s *api.State) { s.Noes = append([]api.Pend{{}}, s.Noes...) }},
	} {
		for _, was := range []api.State{whole(), zero} {
			s := copied(was)
			x.turn(&s)
			wantEq(t, x.name, s, was, false)
			wantEq(t, x.name, s, s, true)
		}
	}
}

// Each part of each element, at each place.
func TestEqElements(t *testing.T) {
	var all []change
	add := func(name string, turn func(s *api.State)) { all = append(all, change{name, turn}) }
	for k := range whole().Ms {
		add("Id", func(s *api.State) { s.Ms[k].Id++ })
		add("Queue", func(s *api.State) { s.Ms[k].Queue += "x" })
		add("Body", func(s *api.State) { s.Ms[k].Body += "\x00" })
		add("Seq", func(s *api.State) { s.Ms[k].Seq += 1 << 32 })
		add("Count", func(s *api.State) { s.Ms[k].Count += 1 << 16 })
		add("By", func(s *api.State) { s.Ms[k].By++ })
		add("a message less", func(s *api.State) { s.Ms = slices.Delete(s.Ms, k, k+1) })
		add("messages up to it", func(s *api.State) { s.Ms = s.Ms[:k] })
	}
	for k := range whole().Waits {
		add("Tid of Waits", func(s *api.State) { s.Waits[k].Tid++ })
		add("a put more", func(s *api.State) { s.Waits[k].Puts = append(s.Waits[k].Puts, api.Put{}) })
		add("a Wait less", func(s *api.State) { s.Waits = slices.Delete(s.Waits, k, k+1) })
		for l := range whole().Waits[k].Puts {
			add("Queue of a put", func(s *api.State) { s.Waits[k].Puts[l].Queue += "x" })
			add("Body of a put", func(s *api.State) { s.Waits[k].Puts[l].Body += "x" })
			add("a put less", func(s *api.State) { s.Waits[k].Puts = slices.Delete(s.Waits[k].Puts, l, l+1) })
			add("puts up to it", func(s *api.State) { s.Waits[k].Puts = s.Waits[k].Puts[:l] })
		}
	}
	for k := range whole().Ends {
		add("Tid of Ends", func(s *api.State) { s.Ends[k].Tid += base })
		add("Yes", func(s *api.State) { s.Ends[k].Yes = !s.Ends[k].Yes })
		add("an End less", func(s *api.State) { s.Ends = slices.Delete(s.Ends, k, k+1) })
	}
	for k := range 2 {
		add("Tid of Open", func(s *api.State) { s.Open[k].Tid++ })
		add("a Part of Open more", func(s *api.State) { s.Open[k].Parts = append(s.Open[k].Parts, 0) })
		add("a Part of Open", func(s *api.State) { s.Open[k].Parts[0] += 1 << 16 })
		add("Parts of Open less", func(s *api.State) { s.Open[k].Parts = s.Open[k].Parts[1:] })
		add("one of Open less", func(s *api.State) { s.Open = slices.Delete(s.Open, k, k+1) })
		add("Tid of Noes", func(s *api.State) { s.Noes[k].Tid++ })
		add("a Part of Noes more", func(s *api.State) { s.Noes[k].Parts = append(s.Noes[k].Parts, 0) })
		add("a Part of Noes", func(s *api.State) { s.Noes[k].Parts[len(s.Noes[k].Parts)-1]++ })
		add("Parts of Noes less", func(s *api.State) { s.Noes[k].Parts = s.Noes[k].Parts[1:] })
		add("one of Noes less", func(s *api.State) { s.Noes = slices.Delete(s.Noes, k, k+1) })
	}
	for _, x := range all {
		s := whole()
		x.turn(&s)
		wantEq(t, x.name, s, whole(), false)
		wantEq(t, x.name, s, copied(s), true)
	}
}

// What is the same in another order, or in another list, is not the same.
func TestEqPlaces(t *testing.T) {
	for _, x := range []change{
		{"Ms", func(s *api.State) { slices.Reverse(s.Ms) }},
		{"Waits", func(s *api.State) { slices.Reverse(s.Waits) }},
		{"Puts", func(s *api.State) { slices.Reverse(s.Waits[1].Puts) }},
		{"Ends", func(s *api.State) { slices.Reverse(s.Ends) }},
		{"Open", func(s *api.State) { slices.Reverse(s.Open) }},
		{"Parts of Open", func(s *api.State) { slices.Reverse(s.Open[0].Parts) }},
		{"Noes", func(s *api.State) { slices.Reverse(s.Noes) }},
		{"Parts of Noes", func(s *api.State) { slices.Reverse(s.Noes[0].Parts) }},
		{"Open and Noes", func(s *api.State) { s.Open, s.Noes = s.Noes, s.Open }},
		{"NextId and NextSeq", func(s *api.State) { s.NextId, s.NextSeq = s.NextSeq, s.NextId }},
		{"NextId and Tx", func(s *api.State) { s.NextId, s.Tx = s.Tx, s.NextId }},
	} {
		s := whole()
		x.turn(&s)
		wantEq(t, x.name+" in another order", s, whole(), false)
	}
}

func TestEqNil(t *testing.T) {
	empty := api.State{Ms: []api.Message{}, Waits: []api.Branch{}, Ends: []api.End{}, Open: []api.Pend{}, Noes: []api.Pend{}}
	wantEq(t, "empty lists", empty, zero, true)
	roomy := api.State{Ms: make([]api.Message, 0, 9), Waits: make([]api.Branch, 0, 9), Ends: make([]api.End, 0, 9), Open: make([]api.Pend, 0, 9), Noes: make([]api.Pend, 0, 9)}
	wantEq(t, "empty lists with room", empty, roomy, true)
	wantEq(t, "no puts", api.State{Waits: []api.Branch{{Puts: []api.Put{}}}}, api.State{Waits: []api.Branch{{}}}, true)
	wantEq(t, "no Parts in Open", api.State{Open: []api.Pend{{Parts: []int{}}}}, api.State{Open: []api.Pend{{}}}, true)
	wantEq(t, "no Parts in Noes", api.State{Noes: []api.Pend{{Parts: []int{}}}}, api.State{Noes: []api.Pend{{}}}, true)
	wantEq(t, "a put", api.State{Waits: []api.Branch{{Puts: []api.Put{{}}}}}, api.State{Waits: []api.Branch{{}}}, false)
	for _, s := range []api.State{{Ms: []api.Message{{}}}, {Waits: []api.Branch{{}}}, {Ends: []api.End{{}}}, {Open: []api.Pend{{}}}, {Noes: []api.Pend{{}}}} {
		wantEq(t, "one that is zero", s, empty, false)
	}
	s := whole()
	s.Waits[0].Puts = []api.Put{}
	wantEq(t, "whole, with an empty list for nil", s, whole(), true)
}

// Nil is like empty in all else that is asked, too.
func TestNilLikeEmpty(t *testing.T) {
	a, b := New(4), New(4)
	b.Ms, b.Waits, b.Ends, b.Open, b.Noes = []api.Message{}, []api.Branch{}, []api.End{}, []api.Pend{}, []api.Pend{}
	if !May(b) || string(Encode(a)) != string(Encode(b)) {
		t.Errorf("P0.4: empty lists: May %v, bytes %x and %x", May(b), Encode(a), Encode(b))
	}
	for _, r := range []api.Record{{Kind: 4, Tid: far}, {Kind: 7, Tid: id(4, 1)}, {Kind: 8, Tid: id(4, 1)}, {Kind: 3, Tid: far}} {
		e := r
		e.Parts, e.Puts = []int{}, []api.Put{}
		if Can(a, r) != api.OK || Can(b, e) != api.OK || !same(Apply(a, r), Apply(b, e)) {
			t.Errorf("P0.4: %s: %d, %d; %s, %s", tellRecord(r), Can(a, r), Can(b, e), tell(Apply(a, r)), tell(Apply(b, e)))
		}
	}
}
