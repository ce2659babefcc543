package keep

import (
	"fmt"
	"testing"

	"postillion/api"
	"postillion/file"
	"postillion/seg"
	"postillion/store"
)

// written is a Keep, its disk, and what was written to it.
type written struct {
	d      *file.Disk
	k      *Keep
	all    []api.State // the states behind 0, 1 and so on of the records that were written since it was opened
	forced int         // so many of the records were forced
}

func begun(t *testing.T, broker int) *written {
	t.Helper()
	w := &written{d: file.New(api.MaxFile)}
	w.open(t, broker)
	return w
}

// open opens the disk anew.
func (w *written) open(t *testing.T, broker int) {
	t.Helper()
	w.k = mustOpen(t, w.d, broker)
	w.all, w.forced = []api.State{w.k.State()}, 0
}

func (w *written) now() api.State { return w.all[len(w.all)-1] }

func (w *written) write(t *testing.T, r api.Record, force bool) {
	t.Helper()
	must(t, w.k.Write(r, force))
	w.all = append(w.all, behind(t, w.now(), r))
	if force {
		w.forced = len(w.all) - 1
	}
}

func (w *written) force(t *testing.T) {
	t.Helper()
	must(t, w.k.Force())
	w.forced = len(w.all) - 1
}

func (w *written) pack(t *testing.T) {
	t.Helper()
	must(t, w.k.Pack())
	w.forced = len(w.all) - 1
}

// wantFall asks of the disk behind that fall that one of the states stands there that may, and answers how many records that is behind. To open it once more, behind any fall, changes nothing.
func (w *written) wantFall(t *testing.T, what string, n int) (*file.Disk, int) {
	t.Helper()
	c := w.d.Fall(n)
	k, err := Open(c, w.now().Broker)
	if err != api.OK {
		t.Fatalf("%s: Fall(%d) of %q: Open: error %d", what, n, lies(w.d), err)
	}
	wantBad(t, what+": behind a fall", k, false)
	was := whole(c)
	for _, more := range []int{0, n} {
		e := c.Fall(more)
		wantState(t, what+": opened twice behind a fall", mustOpen(t, e, w.now().Broker), k.State())
		wantWhole(t, what+": opened twice behind a fall", e, was)
	}
	for stands := len(w.all) - 1; stands >= w.forced; stands-- {
		if store.Eq(k.State(), given(w.all[stands])) {
			return c, stands
		}
	}
	t.Fatalf("%s: Fall(%d) of %q: the state is behind none of %d to %d records: %+v", what, n, lies(w.d), w.forced, len(w.all)-1, k.State())
	return nil, 0
}

// In one segment just those records last that are there to their last byte.
func TestFallWithinWrites(t *testing.T) {
	for forced := 0; forced <= len(life()); forced += 3 {
		w := begun(t, 1)
		var ends []int // how many bytes the log has behind each record
		for n, r := range life() {
			w.write(t, r, n == forced-1)
			ends = append(ends, w.d.Used())
		}
		sure := w.d.Sure("log000")
		for n := range w.d.Used() - sure + 1 {
			want := 0
			for want < len(ends) && ends[want] <= sure+n {
				want++
			}
			what := fmt.Sprintf("P12.2: %d records forced", forced)
			c, _ := w.wantFall(t, what, n)
			wantState(t, fmt.Sprintf("%s: Fall(%d)", what, n), mustOpen(t, c, 1), given(w.all[want]))
		}
	}
}

// Where a Write begins the next segment the elder one is synced first; between that and what comes behind it the disk may fall, too.
func TestFallWithinWriteToNextSegment(t *testing.T) {
	for step := range 3 {
		w := begun(t, 1)
		for n := range int64(3) {
			w.write(t, yes(id(1, 11+n), bulk(10)...), false)
		}
		if step == 0 {
			must(t, w.d.Sync("log000"))
			w.forced = 3
		} else {
			w.write(t, yes(id(1, 20), bulk(5)...), step == 2)
			w.forced = 2 + step
		}
		for n := range unsure(w.d) + 1 {
			w.wantFall(t, fmt.Sprintf("P12.2: within a Write to the next segment, step %d", step), n)
		}
	}
}

// setups are Keeps at which a Pack comes.
func setups() map[string]func(t *testing.T) *written {
	return map[string]func(t *testing.T) *written{
		"nothing was written": func(t *testing.T) *written { return begun(t, 1) },
		"all was forced": func(t *testing.T) *written {
			w := begun(t, 1)
			for _, r := range life() {
				w.write(t, r, true)
			}
			return w
		},
		"some was forced": func(t *testing.T) *written {
			w := begun(t, 1)
			for n, r := range life() {
				w.write(t, r, n == 9)
			}
			return w
		},
		"packed before": func(t *testing.T) *written {
			w := begun(t, 1)
			for n, r := range life() {
				w.write(t, r, false)
				if n == 6 || n == 12 {
					w.pack(t)
				}
			}
			return w
		},
		"packed just now": func(t *testing.T) *written {
			w := begun(t, 1)
			for _, r := range life() {
				w.write(t, r, false)
			}
			w.pack(t)
			return w
		},
		"several segments": func(t *testing.T) *written {
			w := begun(t, 1)
			for n := range int64(9) {
				w.write(t, prep(id(2, n+1), bulk(10)...), n == 4)
				w.write(t, done(id(2, n+1), false), false)
			}
			return w
		},
	}
}

// packSteps are what a Pack does to the disk, step by step, by hand.
func packSteps(w *written) []func() api.Errno {
	at := w.k.log.At()
	steps := []func() api.Errno{
		func() api.Errno { return w.d.Sync(seg.Name(at)) },
		func() api.Errno { return w.d.Append("next", encode(w.now(), at+1)) },
		func() api.Errno { return w.d.Sync("next") },
		func() api.Errno { return w.d.Rename("next", "state") },
	}
	for n := range at + 1 {
		steps = append(steps, func() api.Errno { return w.d.Delete(seg.Name(n)) })
	}
	return steps
}

// A fall behind each step of a Pack, with each number of bytes that may stay; what is opened then is packed anew, and goes on.
func TestFallWithinPack(t *testing.T) {
	for name, setup := range setups() {
		packed := setup(t)
		packed.pack(t)
		for stop := range len(packSteps(setup(t))) + 1 {
			w := setup(t)
			for n, step := range packSteps(w)[:stop] {
				if err := step(); err != api.OK && err != api.ErrNone {
					t.Fatalf("%s: step %d: error %d", name, n, err)
				}
				w.forced = len(w.all) - 1 // from the first step on
			}
			what := fmt.Sprintf("P12.2: %s, %d steps of a Pack", name, stop)
			for n := 0; n <= unsure(w.d); n += 1 + n/30 {
				c, stands := w.wantFall(t, what, n)
				goesOn(t, what, c, w.all[stands])
			}
			if stop == len(packSteps(setup(t))) {
				wantWhole(t, what+", by hand", w.d, whole(packed.d))
			}
		}
	}
}

// goesOn asks of a disk that was opened behind a fall that it can be written to, packed and read as if there had been none.
func goesOn(t *testing.T, what string, d *file.Disk, s api.State) {
	t.Helper()
	w := &written{d: d}
	w.open(t, s.Broker)
	wantState(t, what+": goes on", w.k, given(s))
	w.write(t, coll(id(1, 777), 4), true)
	w.wantFall(t, what+": goes on", 0)
	w.pack(t)
	w.wantFall(t, what+": goes on, packed", 0)
	w.write(t, no(id(1, 777), 4), true)
	w.wantFall(t, what+": goes on, packed", 0)
}

type dice uint64

func (d *dice) throw(sides int) int {
	*d = *d*6364136223846793005 + 1442695040888963407
	return int(uint64(*d) >> 33 % uint64(sides))
}

// puts are up to that many, some of them long.
func (d *dice) puts(most int) []api.Put {
	all := bulk(d.throw(most + 1))
	for n := range all {
		all[n] = put([]string{"a", "b", "letters"}[d.throw(3)], all[n].Body[d.throw(61)*d.throw(2):])
	}
	return all
}

// record is one of any kind, whose transaction is one of few that come in that round; whether it can be is not asked.
func (d *dice) record(s api.State, round int) api.Record {
	tid := id(1+(s.Broker+d.throw(2))%8, int64(1000*round+d.throw(3)))
	own := id(s.Broker, int64(1000*round+d.throw(3)))
	part := 1 + (s.Broker+d.throw(3))%8
	switch d.throw(14) {
	case 0:
		return tx(s.Broker, s.Tx+1)
	case 1:
		return back(tid)
	case 2:
		return prep(tid, d.puts(10)...)
	case 3:
		if len(s.Waits) > 0 {
			tid = s.Waits[d.throw(len(s.Waits))].Tid
		}
		return done(tid, d.throw(2) == 0)
	case 4:
		return coll(own, part)
	case 5:
		return yes(own, d.puts(5)...)
	case 6:
		return no(own, part)
	case 7:
		if len(s.Noes) > 0 {
			p := s.Noes[d.throw(len(s.Noes))]
			return told(p.Tid, p.Parts[0])
		}
	case 8:
		return take(own, id(s.Broker, 1))
	}
	if len(s.Ms) > 0 {
		return take([]int64{tid, own}[d.throw(2)], s.Ms[d.throw(len(s.Ms))].Id)
	}
	return yes(own, d.puts(5)...)
}

// turn writes a record that is thrown, and counts which; one that can't be changes nothing.
func (w *written) turn(t *testing.T, d *dice, round int, seen map[string]int) {
	t.Helper()
	r, force := d.record(w.now(), round), d.throw(4) == 0
	if err := store.Can(w.now(), r); err != api.OK {
		was := whole(w.d)
		wantErr(t, "P12.2: Write of what can't be", w.k.Write(r, force), err)
		wantWhole(t, "P12.2: Write of what can't be", w.d, was)
		seen["can't be"]++
		return
	}
	w.write(t, r, force)
	seen[fmt.Sprint("kind ", r.Kind)]++
}

// Chains of records with Force, Pack and falls between, each of which is gone on from.
func TestFalls(t *testing.T) {
	seen := map[string]int{}
	for seed := range 32 {
		d := dice(seed)
		w := begun(t, 1+seed%8)
		for step := range 400 {
			switch d.throw(60) {
			case 0:
				w.pack(t)
				seen["packed"]++
			case 1:
				w.force(t)
			case 2, 3, 4:
				before := len(w.d.Names())
				c, stands := w.wantFall(t, fmt.Sprintf("P12.2: seed %d, step %d", seed, step), d.throw(3)*d.throw(900))
				w.note(stands, before, seen)
				w.d = c
				w.open(t, w.now().Broker)
			default:
				w.turn(t, &d, step/30, seen)
			}
			wantState(t, fmt.Sprintf("P12.2: seed %d, step %d", seed, step), w.k, w.now())
		}
	}
	for _, what := range []string{"all lasts", "some is lost", "all that may be is lost", "something is given back", "several files", "packed", "can't be", "kind 1", "kind 2", "kind 3", "kind 4", "kind 5", "kind 6", "kind 7", "kind 8", "kind 9"} {
		if seen[what] < 30 {
			t.Errorf("the chains came by %q %d times only", what, seen[what])
		}
	}
}

// note counts what a fall has come by.
func (w *written) note(stands, files int, seen map[string]int) {
	switch last := len(w.all) - 1; {
	case stands == last:
		seen["all lasts"]++
	case stands > w.forced:
		seen["some is lost"]++
	default:
		seen["all that may be is lost"]++
	}
	if !store.Eq(given(w.all[stands]), w.all[stands]) {
		seen["something is given back"]++
	}
	if files > 2 {
		seen["several files"]++
	}
}

// What stands on a disk, and what a Keep is told, is all that its answers hang on.
func TestSameAgain(t *testing.T) {
	tell := func() string {
		w := begun(t, 1)
		d, seen := dice(5), map[string]int{}
		for step := range 200 {
			w.turn(t, &d, step/30, seen)
			if d.throw(30) == 0 {
				w.pack(t)
			}
		}
		return fmt.Sprintf("%s %+v", whole(w.d), w.k.State())
	}
	first := tell()
	for range 3 {
		if tell() != first {
			t.Fatal("P0.5: the same was told, and another disk or another state came of it")
		}
	}
}
