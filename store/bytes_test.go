package store

import (
	"fmt"
	"slices"
	"testing"

	"postillion/api"
)

// wantRound asks that s, which may be, comes back from its bytes.
func wantRound(t *testing.T, name string, s api.State) {
	t.Helper()
	b := Encode(s)
	got, err := Decode(b)
	if err != api.OK || !same(got, s) || !Eq(got, s) || b == nil {
		t.Errorf("P10.1: %s: Decode of its %d bytes: %s, %d", name, len(b), tell(got), err)
	}
	if again := Encode(s); string(again) != string(b) {
		t.Errorf("P0.5: %s: Encode, twice: %x, %x", name, b, again)
	}
	if back := Encode(got); string(back) != string(b) {
		t.Errorf("P10.1: %s: Encode of what Decode answered: %x, was %x", name, back, b)
	}
}

// wantNoBytes asks that b are a state's whose bytes they are, or no state's; true: they are a state's.
func wantNoBytes(t *testing.T, name string, b []byte) bool {
	t.Helper()
	got, err := Decode(b)
	switch {
	case err == api.OK:
		if !May(got) || string(Encode(got)) != string(b) {
			t.Errorf("P10.1: %s: Decode of %x: %s, whose bytes are %x", name, b, tell(got), Encode(got))
		}
	case err != api.ErrForm || !same(got, zero):
		t.Errorf("P10.1: %s: Decode of %x: %s, %d", name, b, tell(got), err)
	}
	return err == api.OK
}

// book is many states that may be, no two of them the same.
func book() []api.State {
	all := []api.State{whole()}
	for b := 1; b <= 8; b++ {
		all = append(all, New(b))
	}
	add := func(turn func(s *api.State)) {
		s := whole()
		turn(&s)
		all = append(all, s)
	}
	for _, n := range []int64{21, 255 + 1, 1 << 16, 1<<32 - 1, 1 << 32} {
		add(func(s *api.State) { s.NextId = n })
		add(func(s *api.State) { s.NextSeq = n + 41 })
	}
	for n := range int64(12) {
		add(func(s *api.State) { s.Tx = n })
	}
	for k := range whole().Ms {
		add(func(s *api.State) { s.Ms[k].Queue = "o" })
		add(func(s *api.State) { s.Ms[k].Body = "other" })
		add(func(s *api.State) { s.Ms[k].Id = id(3, 4) })
		add(func(s *api.State) { s.Ms[k].Count = 500 })
		add(func(s *api.State) { s.Ms[k].By = far })
		add(func(s *api.State) { s.Ms = slices.Delete(s.Ms, k, k+1) })
	}
	for k := range whole().Waits {
		add(func(s *api.State) { s.Waits[k].Tid = []int64{id(1, 3), yours - 1, last - 1}[k] })
		add(func(s *api.State) { s.Waits[k].Puts = []api.Put{put("b", "new")} })
		add(func(s *api.State) { s.Waits[k].Puts = []api.Put{put("b", ""), put("new", "")} })
		add(func(s *api.State) { s.Waits = slices.Delete(s.Waits, k, k+1) })
	}
	for k := range whole().Ends {
		if k != 1 && k != 3 {
			add(func(s *api.State) { s.Ends[k].Yes = !s.Ends[k].Yes })
			add(func(s *api.State) { s.Ends = slices.Delete(s.Ends, k, k+1) })
		}
	}
	for k := range 2 {
		for part := 4; part <= 8; part++ {
			add(func(s *api.State) { s.Open[k].Parts = []int{1, part} })
			add(func(s *api.State) { s.Noes[k].Parts = []int{1, part} })
		}
		add(func(s *api.State) { s.Open = slices.Delete(s.Open, k, k+1) })
		add(func(s *api.State) { s.Noes = slices.Delete(s.Noes, k, k+1) })
	}
	for n := range 6 {
		s := New(5)
		s.NextId, s.NextSeq, s.Ms = 100, 100, messages(5, n*12+12)
		all = append(all, s)
	}
	return all
}

// What comes back from its bytes is what it was, and no two states have the same bytes.
func TestRound(t *testing.T) {
	all := book()
	seen := map[string]int{}
	for k, s := range all {
		if !May(s) {
			t.Fatalf("P10.1: %d may not be: %s", k, tell(s))
		}
		wantRound(t, fmt.Sprint(k), s)
		b := string(Encode(s))
		if l, is := seen[b]; is {
			t.Errorf("P10.1: %s and %s have the same bytes", tell(all[l]), tell(s))
		}
		seen[b] = k
	}
	for k, a := range all {
		for l, b := range all {
			if Eq(a, b) != (k == l) {
				t.Errorf("P10.1: Eq of %s and %s: %v", tell(a), tell(b), k != l)
			}
		}
	}
}

// The greatest state that may be.
func TestRoundLong(t *testing.T) {
	s := api.State{Broker: 8, NextId: base, NextSeq: 1 << 40, Tx: 200, Ms: messages(8, 72)}
	for k := range s.Ms {
		s.Ms[k].Queue, s.Ms[k].Body, s.Ms[k].By = "abcdefgh", some, id(1, int64(k+1))
	}
	for k := range int64(2000) {
		var puts []api.Put
		for range 10 {
			puts = append(puts, put("abcdefgh", some))
		}
		s.Waits = append(s.Waits, api.Branch{Tid: id(1, k+1), Puts: puts})
		s.Ends = append(s.Ends, api.End{Tid: id(8, k+1)})
		s.Open = append(s.Open, api.Pend{Tid: id(8, 1e9+k), Parts: others(8)})
		s.Noes = append(s.Noes, api.Pend{Tid: id(8, k+1), Parts: others(8)})
	}
	wantMay(t, "the greatest", s, true)
	b := Encode(s)
	for _, n := range []int{0, 1, len(b) / 2, len(b) - 1} {
		if wantNoBytes(t, "a front", b[:n]) {
			t.Errorf("P10.1: Decode of the first %d of %d bytes", n, len(b))
		}
	}
	if wantNoBytes(t, "a byte more", append(b, 0)) {
		t.Error("P10.1: Decode of a byte more")
	}
}

func TestDecodeFronts(t *testing.T) {
	for _, s := range []api.State{whole(), New(1), New(8)} {
		b := Encode(s)
		for n := range b {
			if wantNoBytes(t, "a front", b[:n:n]) {
				t.Errorf("P10.1: Decode of the first %d of %d bytes", n, len(b))
			}
			if wantNoBytes(t, "a back", b[n+1:]) {
				t.Errorf("P10.1: Decode of the last %d of %d bytes", len(b)-n-1, len(b))
			}
		}
		for more := range 256 {
			if wantNoBytes(t, "a byte more", append(slices.Clone(b), byte(more))) {
				t.Errorf("P10.1: Decode of the byte %d more", more)
			}
		}
		if wantNoBytes(t, "twice", slices.Concat(b, b)) {
			t.Error("P10.1: Decode of the bytes twice")
		}
	}
	if wantNoBytes(t, "none", nil) || wantNoBytes(t, "none", []byte{}) {
		t.Error("P10.1: Decode of no bytes")
	}
}

// Each byte turned, to each other one.
func TestDecodeTurned(t *testing.T) {
	small := whole()
	small.Ms, small.Waits = small.Ms[:2], small.Waits[:2]
	for _, s := range []api.State{small, New(1)} {
		b := Encode(s)
		good := 0
		for k := range b {
			for x := range 256 {
				c := slices.Clone(b)
				c[k] = byte(x)
				if got, err := Decode(c); err == api.OK && c[k] != b[k] && Eq(got, s) {
					t.Errorf("P10.1: the byte %d is %d for %d, and the state is the same: %s", k, x, b[k], tell(got))
				}
				if wantNoBytes(t, "a byte turned", c) {
					good++
				}
			}
		}
		if good <= len(b) {
			t.Errorf("none of the bytes turned were a state's")
		}
	}
}

// Bytes left out, put in, or in other places.
func TestDecodeMoved(t *testing.T) {
	b := Encode(whole())
	for k := range b {
		wantNoBytes(t, "a byte less", slices.Delete(slices.Clone(b), k, k+1))
		for _, x := range []byte{0, 1, b[k], 255} {
			wantNoBytes(t, "a byte put in", slices.Insert(slices.Clone(b), k, x))
		}
		c := slices.Clone(b)
		c[0], c[k] = c[k], c[0]
		wantNoBytes(t, "two bytes changed", c)
		c = slices.Clone(b)
		slices.Reverse(c[k:])
		wantNoBytes(t, "bytes turned round", c)
	}
	for n := range 300 {
		for _, x := range []byte{0, 1, 3, 255} {
			wantNoBytes(t, "all the same", slices.Repeat([]byte{x}, n))
		}
	}
}

// What may not be is no state's bytes, even laid out as a state is.
func TestDecodeWhatMayNotBe(t *testing.T) {
	for _, x := range []change{
		{"no broker", func(s *api.State) { s.Broker = 0 }},
		{"broker 9", func(s *api.State) { s.Broker = 9 }},
		{"NextId 0", func(s *api.State) { s.NextId = 0 }},
		{"NextId above Base", func(s *api.State) { s.NextId = base + 1 }},
		{"NextSeq 0", func(s *api.State) { s.NextSeq = 0 }},
		{"NextSeq above 2^40", func(s *api.State) { s.NextSeq = 1<<40 + 1 }},
		{"Tx 201", func(s *api.State) { s.Tx = 201 }},
		{"a message twice", func(s *api.State) { s.Ms = append(s.Ms, s.Ms[6]) }},
		{"Count 1,001", func(s *api.State) { s.Ms[0].Count = 1001 }},
		{"By no Tid", func(s *api.State) { s.Ms[0].By = 7 }},
		{"By one that ended", func(s *api.State) { s.Ms[0].By = well }},
		{"Waits that fall", func(s *api.State) { slices.Reverse(s.Waits) }},
		{"a Wait that ended", func(s *api.State) { s.Waits[0].Tid = well }},
		{"Ends that fall", func(s *api.State) { slices.Reverse(s.Ends) }},
		{"an End that is no Tid", func(s *api.State) { s.Ends[0].Tid = 7 }},
		{"Open that falls", func(s *api.State) { slices.Reverse(s.Open) }},
		{"itself in Open", func(s *api.State) { s.Open[0].Parts = []int{3} }},
		{"Noes that fall", func(s *api.State) { slices.Reverse(s.Noes) }},
		{"one of Noes that is in Open", func(s *api.State) { s.Noes[0].Tid = mine }},
		{"itself in Noes", func(s *api.State) { s.Noes[0].Parts = []int{3} }},
	} {
		s := whole()
		x.turn(&s)
		// The parts of Encode, without its first question.
		b := layNumbers(s)
		b = layAll(b, s.Ms, layMessage)
		b = layAll(b, s.Waits, layWait)
		b = layAll(b, s.Ends, layEnd)
		b = layAll(b, s.Open, layPend)
		b = layAll(b, s.Noes, layPend)
		if wantNoBytes(t, x.name, b) {
			t.Errorf("P10.1: %s: Decode takes it", x.name)
		}
	}
}

func FuzzDecode(f *testing.F) {
	f.Add([]byte{})
	for _, s := range book() {
		f.Add(Encode(s))
	}
	f.Fuzz(func(t *testing.T, b []byte) {
		was := string(b)
		if wantNoBytes(t, "thrown", b) {
			s, _ := Decode(b)
			wantMay(t, "thrown", s, true)
		}
		if string(b) != was {
			t.Errorf("P0.3: Decode turned its bytes: %x, was %x", b, was)
		}
	})
}
