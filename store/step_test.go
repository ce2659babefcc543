package store

import (
	"fmt"
	"slices"
	"testing"

	"postillion/api"
)

type dice uint64

func (d *dice) throw(sides int) int {
	*d = *d*6364136223846793005 + 1442695040888963407
	return int(uint64(*d) >> 33 % uint64(sides))
}

// tid is one of few, so that they meet again; mostly of brokers near that one.
func (d *dice) tid(s api.State) int64 {
	switch d.throw(40) {
	case 0:
		return noTids[d.throw(len(noTids))]
	case 1, 2, 3:
		return id(s.Broker, s.Tx+1)
	case 4, 5:
		if len(s.Ends) > 0 {
			return s.Ends[d.throw(len(s.Ends))].Tid
		}
	case 6, 7, 8, 9:
		if len(s.Waits) > 0 {
			return s.Waits[d.throw(len(s.Waits))].Tid
		}
	case 10, 11, 12:
		if len(s.Open) > 0 {
			return s.Open[d.throw(len(s.Open))].Tid
		}
	case 13, 14, 15:
		if len(s.Noes) > 0 {
			return s.Noes[d.throw(len(s.Noes))].Tid
		}
	}
	broker := 1 + d.throw(8)
	if d.throw(2) == 0 {
		broker = s.Broker
	}
	return id(broker, int64(1+d.throw(30)))
}

func (d *dice) parts(broker int) []int {
	var parts []int
	for b := 1; b <= 8; b++ {
		if d.throw(3) == 0 && (b != broker || d.throw(12) == 0) {
			parts = append(parts, b)
		}
	}
	if d.throw(30) == 0 {
		parts = append(parts, d.throw(10))
	}
	return parts
}

func (d *dice) puts() []api.Put {
	var puts []api.Put
	for range d.throw(4) * d.throw(4) {
		p := put([]string{"a", "b", "letters", "zzzzzzzz"}[d.throw(4)], some[:d.throw(61)])
		if d.throw(150) == 0 {
			p = put("Q", "")
		}
		puts = append(puts, p)
	}
	return puts
}

// record is one that has what its Kind has, seldom more.
func (d *dice) record(s api.State) api.Record {
	r := api.Record{Kind: 1 + d.throw(9), Tid: d.tid(s)}
	if d.throw(3) == 0 {
		r.Kind = []int{2, 4, 5, 7}[d.throw(4)]
	}
	switch r.Kind {
	case 1:
		if d.throw(3) == 0 {
			r.Tid = id(s.Broker, s.Tx+1)
		}
	case 2:
		r.Id = id(s.Broker, int64(1+d.throw(int(max(1, min(s.NextId, 200))))))
		if len(s.Ms) > 0 && d.throw(3) > 0 {
			r.Id = s.Ms[d.throw(len(s.Ms))].Id
		}
	case 4, 7:
		r.Puts = d.puts()
	case 5:
		r.Yes = d.throw(2) == 0
	case 6, 8:
		r.Parts = d.parts(s.Broker)
	case 9:
		r.Parts = []int{1 + d.throw(8)}
	}
	switch d.throw(200) {
	case 0:
		r.Id = d.tid(s)
	case 1:
		r.Yes = !r.Yes
	case 2:
		r.Parts = d.parts(s.Broker)
	case 3:
		r.Puts = d.puts()
	case 4:
		r.Kind = d.throw(12)
	}
	return r
}

// more is a record by which a list of a state of broker 3 would be longer.
func (d *dice) more() api.Record {
	n := int64(40 + d.throw(40))
	return []api.Record{
		{Kind: 3, Tid: id(4, n)},
		{Kind: 4, Tid: id(1, n)},
		{Kind: 6, Tid: id(3, n), Parts: []int{1}},
		{Kind: 7, Tid: id(3, n)},
		{Kind: 8, Tid: id(3, n), Parts: []int{1}},
		{Kind: 5, Tid: id(1, 1+n%2), Yes: n%4 > 1},
	}[d.throw(6)]
}

// begin is a state from which a chain goes out: mostly a new one, or one that is nearly full of something.
func (d *dice) begin(k int) api.State {
	s := New(1 + d.throw(8))
	switch k % 8 {
	case 1:
		s.NextId = base - int64(d.throw(30))
	case 2:
		s.NextSeq = 1<<40 - int64(d.throw(30))
	case 3:
		s.Tx = 200 - int64(d.throw(2))
	case 4:
		s.NextId, s.NextSeq, s.Ms = 80, 80, messages(s.Broker, 60+d.throw(13))
	case 5:
		s = whole()
	}
	return s
}

// nearly is a state in which lists are as long as may be, or a little shorter.
func (d *dice) nearly(k int) api.State {
	s := New(3)
	s.Waits = []api.Branch{{Tid: id(1, 1)}, {Tid: id(1, 2), Puts: tenPuts()[:3]}}
	n := 2000 - int64(k/4%2*2)
	for i := range n {
		switch k % 4 {
		case 0:
			s.Ends = append(s.Ends, api.End{Tid: id(2, 100+i), Yes: d.throw(2) == 0})
		case 1:
			if len(s.Waits) < int(n) {
				s.Waits = append(s.Waits, api.Branch{Tid: id(2, 100+i)})
			}
		case 2:
			s.Open = append(s.Open, api.Pend{Tid: id(3, 300+i), Parts: []int{2}})
		case 3:
			s.Ends = append(s.Ends, api.End{Tid: id(3, 300+i)})
			s.Noes = append(s.Noes, api.Pend{Tid: id(3, 300+i), Parts: []int{2}})
		}
	}
	return s
}

// counts is how often each answer came of each Kind.
type counts [10][13]int

// step asks Can and Apply of r against the plainer way, and answers what comes of it.
func (n *counts) step(t *testing.T, s api.State, r api.Record) api.State {
	t.Helper()
	was, p := copied(s), plainOf(s)
	want := p.can(r)
	if want == api.OK {
		p.apply(r)
	}
	if err := Can(s, r); err != want {
		t.Errorf("P10.2: Can of %s: %d, want %d, in %s", tellRecord(r), err, want, tell(s))
	}
	now := Apply(s, r)
	if !same(now, p.state()) {
		t.Errorf("P10.3: Apply of %s:\n%s, want\n%s; was\n%s", tellRecord(r), tell(now), tell(p.state()), tell(was))
	}
	if !same(s, was) {
		t.Errorf("P0.3: Apply of %s turned the state: %s, was %s", tellRecord(r), tell(s), tell(was))
	}
	if !May(now) {
		t.Errorf("P10.3: Apply of %s: a state that may not be: %s", tellRecord(r), tell(now))
	}
	if Eq(now, s) != same(now, s) {
		t.Errorf("P10.1: Eq of %s and %s: %v", tell(now), tell(s), Eq(now, s))
	}
	if r.Kind >= 1 && r.Kind <= 9 {
		n[r.Kind][want]++
	}
	return now
}

func TestStepByStep(t *testing.T) {
	d := dice(10)
	var n counts
	for k := range 96 {
		s := d.begin(k)
		for i := range 120 {
			s = n.step(t, s, d.record(s))
			if i%25 == 0 {
				wantRound(t, fmt.Sprint("chain ", k), s)
			}
			if t.Failed() {
				return
			}
		}
	}
	for k := range 16 {
		s := d.nearly(k)
		for i := range 30 {
			r := d.record(s)
			if i%2 == 0 {
				r = d.more()
			}
			s = n.step(t, s, r)
		}
		if t.Failed() {
			return
		}
	}
	wantCounts(t, n)
}

// wantCounts asks that each Kind had each answer that it can have, and no other one.
func wantCounts(t *testing.T, n counts) {
	t.Helper()
	for kind, errs := range [10][]api.Errno{
		1: {0, 1, 5, 9, 12},
		2: {0, 1, 6, 8, 9},
		3: {0, 1, 5, 9, 12},
		4: {0, 1, 5, 9, 12},
		5: {0, 1, 5, 6, 9},
		6: {0, 1, 5, 9, 12},
		7: {0, 1, 5, 9, 12},
		8: {0, 1, 5, 9, 12},
		9: {0, 1, 6},
	} {
		for err := range api.Errno(13) {
			if got := n[kind][err]; slices.Contains(errs, err) != (got > 2) {
				t.Errorf("records of Kind %d were answered %d %d times", kind, err, got)
			}
		}
	}
}

// number is one at an edge, or an id that stands in s.
func (d *dice) number(s api.State) int64 {
	if d.throw(2) == 0 {
		return d.tid(s)
	}
	edges := []int64{0, 1, -1, 19, 20, 39, 40, 200, 201, 1000, 1001, base - 1, base, base + 1, 1 << 40, 1<<40 + 1, id(s.Broker, 1), id(s.Broker, 19), id(s.Broker, 20)}
	return edges[d.throw(len(edges))]
}

// turned is s with a part of it turned, so that it may be or not.
func (d *dice) turned(s api.State) api.State {
	s = copied(s)
	n := d.number(s)
	switch d.throw(9) {
	case 0:
		s.Broker = d.throw(10)
	case 1:
		s.NextId = n
	case 2:
		s.NextSeq = n
	case 3:
		s.Tx = n
	case 4:
		if len(s.Ms) > 0 {
			d.turnMessage(&s.Ms[d.throw(len(s.Ms))], n)
		}
	case 5:
		if len(s.Waits) > 0 {
			w := &s.Waits[d.throw(len(s.Waits))]
			*w = []api.Branch{{Tid: n, Puts: w.Puts}, {Tid: w.Tid, Puts: d.puts()}}[d.throw(2)]
		}
	case 6:
		if len(s.Ends) > 0 {
			e := &s.Ends[d.throw(len(s.Ends))]
			*e = []api.End{{Tid: n, Yes: e.Yes}, {Tid: e.Tid, Yes: !e.Yes}}[d.throw(2)]
		}
	case 7:
		d.turnPend(s.Open, n, s.Broker)
	case 8:
		d.turnPend(s.Noes, n, s.Broker)
	}
	return s
}

func (d *dice) turnMessage(m *api.Message, n int64) {
	switch d.throw(6) {
	case 0:
		m.Id = n
	case 1:
		m.Queue = []string{"", "abcdefgh", "abcdefghi", "Q", "\xff"}[d.throw(5)]
	case 2:
		m.Body = (some + "x")[d.throw(3):]
	case 3:
		m.Seq = n
	case 4:
		m.Count = int(n)
	case 5:
		m.By = n
	}
}

func (d *dice) turnPend(pends []api.Pend, n int64, broker int) {
	if len(pends) > 0 {
		p := &pends[d.throw(len(pends))]
		*p = []api.Pend{{Tid: n, Parts: p.Parts}, {Tid: p.Tid, Parts: d.parts(broker)}}[d.throw(2)]
	}
}

// What may be, and what may not, against the plainer way to say it; what may be comes back from its bytes.
func TestMayStepByStep(t *testing.T) {
	d := dice(11)
	may, mayNot := 0, 0
	for k := range 150 {
		s := d.begin(k)
		for range 20 + d.throw(100) {
			s = Apply(s, d.record(s))
		}
		for range 30 {
			x := d.turned(s)
			if d.throw(4) == 0 {
				x = d.turned(x)
			}
			want := plainMay(x)
			if May(x) != want {
				t.Fatalf("P10.1: May: %v of %s", !want, tell(x))
			}
			if b := Encode(x); (b != nil) != want {
				t.Fatalf("P10.1: Encode: %x of %s", b, tell(x))
			}
			if Eq(x, s) != same(x, s) {
				t.Fatalf("P10.1: Eq of %s and %s: %v", tell(x), tell(s), Eq(x, s))
			}
			if want {
				may++
				wantRound(t, "turned", x)
				if (string(Encode(x)) == string(Encode(s))) != same(x, s) {
					t.Fatalf("P10.1: Encode of %s and of %s", tell(x), tell(s))
				}
			} else {
				mayNot++
				if now := Apply(x, d.record(x)); !same(now, x) {
					t.Fatalf("P10.3: Apply of what may not be: %s, was %s", tell(now), tell(x))
				}
			}
		}
	}
	if may < 800 || mayNot < 800 {
		t.Errorf("only %d that may be and %d that may not were asked about", may, mayNot)
	}
}

// Bytes of states that records made, a little worse.
func TestDecodeStepByStep(t *testing.T) {
	d := dice(12)
	good, bad := 0, 0
	for k := range 100 {
		s := d.begin(k)
		for range 60 {
			s = Apply(s, d.record(s))
		}
		b := Encode(s)
		for range 60 {
			c := slices.Clone(b)
			at := d.throw(len(c))
			switch d.throw(4) {
			case 0:
				c[at] ^= 1 << d.throw(8)
			case 1:
				c = slices.Insert(c, at, byte(d.throw(256)))
			case 2:
				c = slices.Delete(c, at, at+1)
			case 3:
				c[at], c[d.throw(len(c))] = byte(d.throw(3)), byte(d.throw(3))
			}
			if wantNoBytes(t, "turned", c) {
				good++
			} else {
				bad++
			}
		}
	}
	if good < 300 || bad < 1000 {
		t.Errorf("only %d turned bytes were a state's, %d were not", good, bad)
	}
}
