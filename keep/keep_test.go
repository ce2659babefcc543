package keep

import (
	"cmp"
	"fmt"
	"slices"
	"strings"
	"testing"

	"postillion/api"
	"postillion/file"
	"postillion/store"
)

const base = int64(api.Base)

// id is an id of that broker: of a transaction, or of a message.
func id(broker int, n int64) int64 { return int64(broker)*base + n }

func put(queue, body string) api.Put { return api.Put{Queue: queue, Body: body} }

// bulk are n puts of the longest bodies, so that few records fill a segment.
func bulk(n int) []api.Put {
	return slices.Repeat([]api.Put{put("letters", strings.Repeat("x", 60))}, n)
}

// The records, by what they are.
func tx(broker int, n int64) api.Record {
	return api.Record{Kind: api.RTx, Tid: id(broker, n)}
}

func take(tid, message int64) api.Record {
	return api.Record{Kind: api.RTake, Tid: tid, Id: message}
}

func back(tid int64) api.Record { return api.Record{Kind: api.RBack, Tid: tid} }

func prep(tid int64, puts ...api.Put) api.Record {
	return api.Record{Kind: api.RPrep, Tid: tid, Puts: puts}
}

func done(tid int64, yes bool) api.Record {
	return api.Record{Kind: api.RDone, Tid: tid, Yes: yes}
}

func coll(tid int64, parts ...int) api.Record {
	return api.Record{Kind: api.RColl, Tid: tid, Parts: parts}
}

func yes(tid int64, puts ...api.Put) api.Record {
	return api.Record{Kind: api.RYes, Tid: tid, Puts: puts}
}

func no(tid int64, parts ...int) api.Record {
	return api.Record{Kind: api.RNo, Tid: tid, Parts: parts}
}

func told(tid int64, part int) api.Record {
	return api.Record{Kind: api.RTold, Tid: tid, Parts: []int{part}}
}

// life is a chain of records of broker 1, of every kind; when it stops, one message is free, one is held by one that is prepared, one by one that is to be decided, and two by ones that are neither.
func life() []api.Record {
	return []api.Record{
		tx(1, 1), tx(1, 2), tx(1, 3),
		yes(id(1, 1), put("a", "one"), put("b", "two"), put("b", "three"), put("c", "four"), put("c", "five")),
		take(id(2, 1), id(1, 1)), back(id(2, 1)),
		take(id(1, 2), id(1, 2)), coll(id(1, 2), 2, 3),
		take(id(3, 1), id(1, 1)), prep(id(3, 1), put("d", "six")), done(id(3, 1), false),
		take(id(4, 1), id(1, 3)), prep(id(4, 1), put("d", "seven"), put("a", "")),
		no(id(1, 40), 5, 6), told(id(1, 40), 5),
		prep(id(5, 1), put("e", "eight")), done(id(5, 1), true),
		take(id(1, 3), id(1, 4)), take(id(6, 1), id(1, 5)),
	}
}

// behind is what those records, each of which can be, make of s.
func behind(t *testing.T, s api.State, records ...api.Record) api.State {
	t.Helper()
	for k, r := range records {
		if err := store.Can(s, r); err != api.OK {
			t.Fatalf("record %d, %+v, can't be: error %d, in %+v", k, r, err, s)
		}
		s = store.Apply(s, r)
	}
	return s
}

// states are that of a new broker, and that behind each of those records.
func states(t *testing.T, broker int, records []api.Record) []api.State {
	t.Helper()
	all := []api.State{store.New(broker)}
	for k := range records {
		all = append(all, behind(t, all[k], records[k]))
	}
	return all
}

// given is s when what was taken by those that are neither prepared nor to be decided was given back, by another way than the program's.
func given(s api.State) api.State {
	s.Ms, s.Ends = slices.Clone(s.Ms), slices.Clone(s.Ends)
	safe, loose := map[int64]bool{0: true}, map[int64]bool{}
	for _, w := range s.Waits {
		safe[w.Tid] = true
	}
	for _, p := range s.Open {
		safe[p.Tid] = true
	}
	for k := range s.Ms {
		if m := &s.Ms[k]; !safe[m.By] {
			loose[m.By] = true
			m.By, m.Count = 0, min(m.Count+1, 1000)
		}
	}
	for tid := range loose {
		s.Ends = append(s.Ends, api.End{Tid: tid})
	}
	slices.SortFunc(s.Ends, func(a, b api.End) int { return cmp.Compare(a.Tid, b.Tid) })
	return s
}

func wantErr(t *testing.T, what string, got, want api.Errno) {
	t.Helper()
	if got != want {
		t.Errorf("%s: error %d, want %d", what, got, want)
	}
}

// must does what has to go well for a test to mean anything.
func must(t *testing.T, errs ...api.Errno) {
	t.Helper()
	for k, err := range errs {
		if err != api.OK {
			t.Fatalf("step %d: error %d", k, err)
		}
	}
}

func mustOpen(t *testing.T, d *file.Disk, broker int) *Keep {
	t.Helper()
	k, err := Open(d, broker)
	if k == nil || err != api.OK {
		t.Fatalf("P12.1: Open for %d of %q: %v, error %d", broker, lies(d), k, err)
	}
	return k
}

// wantNoOpen asks that nothing is opened, but that error told.
func wantNoOpen(t *testing.T, what string, d *file.Disk, broker int, want api.Errno) {
	t.Helper()
	k, err := Open(d, broker)
	if k != nil || err != want {
		t.Errorf("P12.1: %s: Open for %d of %q: %v, error %d, want %d", what, broker, lies(d), k, err, want)
	}
}

// mustWrite writes all of those, none of them forced.
func mustWrite(t *testing.T, k *Keep, records ...api.Record) {
	t.Helper()
	for n, r := range records {
		if err := k.Write(r, false); err != api.OK {
			t.Fatalf("P12.2: Write of %+v, record %d: error %d", r, n, err)
		}
	}
}

func wantState(t *testing.T, what string, k *Keep, want api.State) {
	t.Helper()
	if got := k.State(); !store.Eq(got, want) {
		t.Errorf("%s: State %+v,\nwant %+v", what, got, want)
	}
}

func wantBad(t *testing.T, what string, k *Keep, want bool) {
	t.Helper()
	if k.Bad() != want {
		t.Errorf("%s: Bad %v", what, !want)
	}
}

// wantLasts asks that behind a fall of the disk, by which as little stays as can, that state stands, given back.
func wantLasts(t *testing.T, what string, d *file.Disk, want api.State) {
	t.Helper()
	c := d.Fall(0)
	k, err := Open(c, want.Broker)
	if err != api.OK {
		t.Fatalf("%s: Open of %q, behind a fall %q: error %d", what, lies(d), lies(c), err)
	}
	wantState(t, what+": behind a fall", k, given(want))
	wantBad(t, what+": behind a fall", k, false)
}

// unsure is how many bytes of a disk are not sure.
func unsure(d *file.Disk) int {
	n := d.Used()
	for _, name := range d.Names() {
		n -= d.Sure(name)
	}
	return n
}

// unharmed is a disk behind a fall by which nothing is lost: no more than one file of a Keep's disk has bytes that are not sure.
func unharmed(d *file.Disk) *file.Disk { return d.Fall(unsure(d)) }

// lies tells of each file how many bytes it has, and how many of them are sure.
func lies(d *file.Disk) string {
	var s strings.Builder
	for _, name := range d.Names() {
		b, _ := d.Read(name)
		fmt.Fprintf(&s, "%s=%d/%d ", name, len(b), d.Sure(name))
	}
	return s.String()
}

// whole tells all of a disk, byte by byte.
func whole(d *file.Disk) string {
	var s strings.Builder
	for _, name := range d.Names() {
		b, _ := d.Read(name)
		fmt.Fprintf(&s, "%s=%x/%d ", name, b, d.Sure(name))
	}
	return s.String()
}

func wantWhole(t *testing.T, what string, d *file.Disk, want string) {
	t.Helper()
	if got := whole(d); got != want {
		t.Errorf("%s: the disk has %s, want %s", what, got, want)
	}
}

// wantDown asks of a Keep that is Bad, or none: ErrDown, whatever is asked for, and nothing changes.
func wantDown(t *testing.T, what string, k *Keep) {
	t.Helper()
	was := k.State()
	for range 2 {
		for _, force := range []bool{false, true} {
			for _, r := range append(life(), api.Record{}, tx(1, 4), tx(2, 4), yes(id(1, 100), bulk(10)...)) {
				wantErr(t, what+": Write", k.Write(r, force), api.ErrDown)
			}
		}
		wantErr(t, what+": Force", k.Force(), api.ErrDown)
		wantErr(t, what+": Pack", k.Pack(), api.ErrDown)
		wantBad(t, what, k, true)
		wantState(t, what, k, was)
	}
}

func TestNil(t *testing.T) {
	var k *Keep
	wantDown(t, "P12.2: nil", k)
	wantState(t, "P12.2: nil", k, api.State{})
}

// A Keep that Open did not make has nothing to write on.
func TestZeroKeep(t *testing.T) {
	k := new(Keep)
	wantDown(t, "P0.1: a zero Keep", k)
	wantState(t, "P0.1: a zero Keep", k, api.State{})
}

// What one Keep is told is nothing to another.
func TestTwoKeepsAreApart(t *testing.T) {
	d, e := file.New(1000), file.New(1000)
	k, o := mustOpen(t, d, 1), mustOpen(t, e, 1)
	mustWrite(t, k, tx(1, 1))
	must(t, k.Pack())
	wantState(t, "P0.5: another one", o, store.New(1))
	if len(e.Names()) > 0 {
		t.Errorf("P0.5: another one's disk has %q", lies(e))
	}
}
