package sess

import (
	"fmt"
	"testing"

	"postillion/api"
)

// words are the ways to hear of a session that is open and has no transaction, or 50.
var words = []struct {
	name  string
	speak func(s *Sessions, id int64) bool
}{
	{"Touch", (*Sessions).Touch},
	{"Bind to a transaction", func(s *Sessions, id int64) bool { return s.Bind(id, 60) }},
	{"Bind to the one that it may have", func(s *Sessions, id int64) bool { return s.Bind(id, 50) }},
	{"Bind to none", func(s *Sessions, id int64) bool { return s.Bind(id, 0) }},
}

// Silent for 5 ticks it is not told; for 6 and more it is told at every tick, and stays as it was.
func TestLease(t *testing.T) {
	for _, tid := range []int64{0, 50} {
		what := fmt.Sprintf("P14.1: it has %d", tid)
		s, ids := open(t, 1)
		wantBind(t, what, s, ids[0], tid, true)
		for tick := 1; tick <= 5; tick++ {
			wantTick(t, fmt.Sprintf("%s, tick %d", what, tick), s)
			wantRows(t, what, s, row{ids[0], tid})
		}
		for tick := 6; tick <= 20; tick++ {
			wantTick(t, fmt.Sprintf("%s, tick %d", what, tick), s, ids[0])
			wantRows(t, what+": it stays", s, row{ids[0], tid})
		}
		wantBind(t, what+": it stays", s, ids[0], 60, true)
		wantClose(t, what+": it stays", s, ids[0], 60, true)
		wantTick(t, what+": it was closed", s)
	}
}

// Nobody is told where nobody is; who is opened later has the whole lease.
func TestOpenIsHeard(t *testing.T) {
	for ticks := range 2 * api.Lease {
		what := fmt.Sprintf("P14.1: opened behind %d ticks", ticks)
		s := New(3)
		for range ticks {
			wantTick(t, what+": nobody", s)
		}
		wantOpen(t, what, s, id(3, 1))
		for range api.Lease - 1 {
			wantTick(t, what, s)
		}
		wantTick(t, what, s, id(3, 1))
	}
}

// A word at any tick, ahead of the lease's end or behind it, is one from which all six ticks are counted anew; of the other one nothing was heard.
func TestEachWordIsHeard(t *testing.T) {
	for _, word := range words {
		for silent := range 2 * api.Lease {
			what := fmt.Sprintf("P14.1: %s behind %d ticks", word.name, silent)
			s, ids := open(t, 2)
			wantBind(t, what, s, ids[1], 50, true)
			for range silent {
				s.Tick()
			}
			if !word.speak(s, ids[1]) {
				t.Error(what, "is refused")
			}
			for later := 1; later <= 2*api.Lease; later++ {
				var told []int64
				if silent+later >= api.Lease {
					told = append(told, ids[0])
				}
				if later >= api.Lease {
					told = append(told, ids[1])
				}
				wantTick(t, fmt.Sprintf("%s and %d more", what, later), s, told...)
			}
		}
	}
}

func TestWhoSpeaksInTimeIsNeverTold(t *testing.T) {
	for _, word := range words {
		s, ids := open(t, 1)
		for range 9 {
			for range api.Lease - 1 {
				wantTick(t, "P14.1: "+word.name+" in time", s)
			}
			if !word.speak(s, ids[0]) {
				t.Error("P14.1:", word.name, "is refused")
			}
		}
		for range api.Lease - 1 {
			wantTick(t, "P14.1: "+word.name+" in time", s)
		}
		wantTick(t, "P14.1: silent behind "+word.name, s, ids[0])
	}
}

func TestTickOfSeveral(t *testing.T) {
	s, ids := open(t, 1)
	wantTick(t, "P14.1: 1", s)
	for n := int64(2); n <= 4; n++ {
		wantOpen(t, "P14.1", s, id(3, n))
		ids = append(ids, id(3, n))
	}
	wantTick(t, "P14.1: 2", s)
	wantTouch(t, "P14.1", s, ids[1], true)
	for tick := 3; tick <= 5; tick++ {
		wantTick(t, fmt.Sprint("P14.1: ", tick), s)
	}
	wantTick(t, "P14.1: the first", s, ids[0])
	wantTick(t, "P14.1: all but who spoke", s, ids[0], ids[2], ids[3])
	wantTick(t, "P14.1: all four", s, ids...)
	wantTouch(t, "P14.1", s, ids[3], true)
	wantBind(t, "P14.1", s, ids[1], 50, true)
	wantTick(t, "P14.1: two spoke", s, ids[0], ids[2])
	wantClose(t, "P14.1", s, ids[0], 0, true)
	wantTick(t, "P14.1: one was closed", s, ids[2])
	wantTouch(t, "P14.1", s, ids[2], true)
	for range 3 {
		wantTick(t, "P14.1: all spoke", s)
	}
	wantTick(t, "P14.1: the two are silent again", s, ids[1], ids[3])
	wantTick(t, "P14.1", s, ids[1], ids[3])
	wantTick(t, "P14.1: all are silent again", s, ids[1:]...)
}

// They rise, whichever way they spoke, and however far their transactions fall.
func TestTickRises(t *testing.T) {
	for turn := range 20 {
		s, ids := open(t, 20)
		for k := range ids {
			place := (k*7 + turn) % 20
			wantTouch(t, "P14.1", s, ids[place], true)
			wantBind(t, "P14.1", s, ids[19-place], int64(place)+50, true)
		}
		for range api.Lease - 1 {
			wantTick(t, "P14.1: 20", s)
		}
		wantTick(t, "P14.1: 20", s, ids...)
		wantTick(t, "P14.1: 20", s, ids...)
	}
}

// To ask of one is no word of it, nor is what happens to others.
func TestAskingIsNotHeard(t *testing.T) {
	s, ids := open(t, 1)
	wantBind(t, "P14.1", s, ids[0], 50, true)
	for n := int64(2); n < 2+api.Lease-1; n++ {
		wantRows(t, "P14.1: asked", s, row{ids[0], 50})
		wantOpen(t, "P14.1: another", s, id(3, n))
		wantTouch(t, "P14.1: another", s, id(3, n), true)
		wantBind(t, "P14.1: another", s, id(3, n), 60, true)
		wantTick(t, "P14.1: asked", s)
		wantClose(t, "P14.1: another", s, id(3, n), 60, true)
	}
	wantRows(t, "P14.1: asked", s, row{ids[0], 50})
	wantTick(t, "P14.1: asked", s, ids[0])
}

// What is refused does nothing: it is no word, neither of who asked nor of who has the transaction.
func TestRefusedIsNotHeard(t *testing.T) {
	s, ids := open(t, 20)
	wantBind(t, "P14.1", s, ids[7], 50, true)
	wantBind(t, "P14.1", s, ids[8], 60, true)
	for range api.Lease - 1 {
		wantTick(t, "P14.1: 20", s)
		wantOpen(t, "P14.1: the 21st", s, 0)
		for k := range ids {
			wantBind(t, "P14.1: another has it", s, ids[k], 50, k == 7)
		}
		wantBind(t, "P14.1: another has it", s, ids[7], 60, false)
		wantBind(t, "P14.1: no session", s, 0, 50, false)
		wantBind(t, "P14.1: no session", s, id(3, 21), 70, false)
	}
	others := append(append([]int64{}, ids[:7]...), ids[8:]...)
	wantTick(t, "P14.1: one of 20 was heard of", s, others...)
	wantTouch(t, "P14.1", s, ids[0], true)
	wantTick(t, "P14.1: two of 20 were heard of", s, others[1:]...)
}

// Who has what another one asks for was not heard of by that, at whichever tick.
func TestOwnerIsNotHeard(t *testing.T) {
	for silent := range 2 * api.Lease {
		what := fmt.Sprintf("P14.1: asked for behind %d ticks", silent)
		s, ids := open(t, 2)
		wantBind(t, what, s, ids[0], 50, true)
		for range silent {
			s.Tick()
		}
		wantTouch(t, what, s, ids[1], true)
		for later := 1; later < api.Lease; later++ {
			wantBind(t, what, s, ids[1], 50, false)
			told := 0
			if silent+later >= api.Lease {
				told = 1
			}
			wantTick(t, fmt.Sprintf("%s and %d more", what, later), s, ids[:told]...)
		}
		wantBind(t, what, s, ids[1], 50, false)
		wantTick(t, what+", at the end", s, ids...)
	}
}

// Who was closed is not told, at whichever tick; who is opened next has the whole lease.
func TestCloseForgetsTicks(t *testing.T) {
	for silent := range 2 * api.Lease {
		what := fmt.Sprintf("P14.1: closed behind %d ticks", silent)
		s, ids := open(t, 1)
		for range silent {
			s.Tick()
		}
		wantClose(t, what, s, ids[0], 0, true)
		for range api.Lease {
			wantTick(t, what, s)
		}
		wantOpen(t, what, s, id(3, 2))
		for range api.Lease - 1 {
			wantTick(t, what+", the next", s)
		}
		wantTick(t, what+", the next", s, id(3, 2))
	}
}
