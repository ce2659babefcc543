package sess

import (
	"fmt"
	"math"
	"slices"
	"testing"

	"postillion/api"
)

// id is the broker's id of number n, laid out by bits, as the program does not.
func id(broker int, n int64) int64 { return int64(broker)<<32 | n }

// far are numbers that no session of the brokers 2 and 3 here ever is.
var far = []int64{math.MinInt64, math.MinInt64 + 1, -id(3, 1), -1, 0, 1, 2, 3, api.Base, id(2, 0), id(3, 0), id(3, 999), id(1, 1), id(4, 1), id(9, 1), math.MaxInt64 - 1, math.MaxInt64}

// row is what a session ought to have: a transaction, or 0.
type row struct{ id, tid int64 }

// wantRows holds what is to be seen without a word to anybody: each one's transaction, and whose it is; nobody beside them has one.
func wantRows(t *testing.T, what string, s *Sessions, rows ...row) {
	t.Helper()
	seen := []int64{0}
	for _, r := range rows {
		seen = append(seen, r.tid, r.id)
		if got := s.Tid(r.id); got != r.tid {
			t.Errorf("%s: Tid(%d) %d, want %d", what, r.id, got, r.tid)
		}
		if got := s.Of(r.tid); r.tid != 0 && got != r.id {
			t.Errorf("%s: Of(%d) %d, want %d", what, r.tid, got, r.id)
		}
	}
	if got := s.Of(0); got != 0 {
		t.Errorf("%s: Of(0) %d", what, got)
	}
	for _, n := range append([]int64{40, 50, 60, 70, 80}, far...) {
		if slices.Contains(seen, n) {
			continue
		}
		if s.Tid(n) != 0 || s.Of(n) != 0 {
			t.Errorf("%s: nobody has %d, but Tid %d, Of %d", what, n, s.Tid(n), s.Of(n))
		}
	}
}

func wantOpen(t *testing.T, what string, s *Sessions, want int64) {
	t.Helper()
	if got, is := s.Open(); got != want || is != (want != 0) {
		t.Errorf("%s: Open %d, %v, want %d", what, got, is, want)
	}
}

func wantTouch(t *testing.T, what string, s *Sessions, id int64, is bool) {
	t.Helper()
	if got := s.Touch(id); got != is {
		t.Errorf("%s: Touch(%d) %v, want %v", what, id, got, is)
	}
}

func wantBind(t *testing.T, what string, s *Sessions, id, tid int64, is bool) {
	t.Helper()
	if got := s.Bind(id, tid); got != is {
		t.Errorf("%s: Bind(%d, %d) %v, want %v", what, id, tid, got, is)
	}
}

func wantClose(t *testing.T, what string, s *Sessions, id, tid int64, was bool) {
	t.Helper()
	if got, is := s.Close(id); got != tid || is != was {
		t.Errorf("%s: Close(%d) %d, %v, want %d, %v", what, id, got, is, tid, was)
	}
}

// wantTick ticks, and holds what is told against who ought to be, rising.
func wantTick(t *testing.T, what string, s *Sessions, silent ...int64) {
	t.Helper()
	if got := s.Tick(); !slices.Equal(got, silent) {
		t.Errorf("%s: Tick %v, want %v", what, got, silent)
	}
}

// open is broker 3's Sessions, of which so many were opened, and their ids.
func open(t *testing.T, many int) (*Sessions, []int64) {
	t.Helper()
	s := New(3)
	var ids []int64
	for n := range many {
		wantOpen(t, "P14.1: at first", s, id(3, int64(n)+1))
		ids = append(ids, id(3, int64(n)+1))
	}
	return s, ids
}

// rowsOf is what these have, one behind the other.
func rowsOf(ids []int64, tids ...int64) []row {
	var rows []row
	for k := range ids {
		rows = append(rows, row{ids[k], tids[k]})
	}
	return rows
}

func TestOpen(t *testing.T) {
	for broker := 1; broker <= 8; broker++ {
		what := fmt.Sprintf("P14.1: broker %d", broker)
		s := New(broker)
		for n := int64(1); n <= 19; n++ {
			wantTouch(t, what+", ahead of Open", s, id(broker, n), false)
			wantOpen(t, what, s, id(broker, n))
			wantTouch(t, what, s, id(broker, n), true)
			wantRows(t, what, s, row{id(broker, n), 0})
		}
		wantTouch(t, what+": only the 19 are open", s, id(broker, 20), false)
		wantOpen(t, what+": the 20th", s, id(broker, 20))
		for range 3 {
			wantOpen(t, what+": the 21st", s, 0)
			wantTouch(t, what+": the 21st", s, id(broker, 21), false)
		}
		for n := int64(1); n <= 20; n++ {
			wantTouch(t, what+": all 20 stay", s, id(broker, n), true)
			wantTouch(t, what+": of another broker", s, id(broker%8+1, n), false)
		}
	}
}

// A number is spent by each session that is opened, and by nothing else.
func TestNoneTwice(t *testing.T) {
	s := New(5)
	for n := int64(1); n <= 500; n++ {
		wantOpen(t, "P14.1: closed at once", s, id(5, n))
		wantClose(t, "P14.1: closed at once", s, id(5, n), 0, true)
	}
	for n := int64(501); n <= 520; n++ {
		wantOpen(t, "P14.1: none is closed", s, id(5, n))
	}
	last := int64(520)
	for _, closed := range []int64{520, 501, 510, 511, 519, 502, 521, 522} {
		for range 3 {
			wantOpen(t, "P14.1: 20 are open", s, 0)
		}
		wantClose(t, "P14.1: one of 20", s, id(5, closed), 0, true)
		wantClose(t, "P14.1: one of 20, twice", s, id(5, closed), 0, false)
		last++
		wantOpen(t, "P14.1: behind a Close of 20", s, id(5, last))
		wantTouch(t, "P14.1: who was closed stays so", s, id(5, closed), false)
	}
	wantOpen(t, "P14.1: 20 are open again", s, 0)
}

// However many are closed, just as many find room.
func TestRoomBehindClose(t *testing.T) {
	for closed := range 21 {
		what := fmt.Sprintf("P14.1: %d of 20 were closed", closed)
		s, ids := open(t, 20)
		for k := range closed {
			wantClose(t, what, s, ids[(k*7+3)%20], 0, true)
		}
		for k := range closed {
			wantOpen(t, what, s, id(3, int64(21+k)))
		}
		wantOpen(t, what+", and all are open again", s, 0)
	}
}

// Neither a transaction nor silence makes room.
func TestTwentyAreAll(t *testing.T) {
	s, ids := open(t, 20)
	for k := range ids {
		wantBind(t, "P14.1: 20", s, ids[k], int64(k)+50, true)
	}
	wantOpen(t, "P14.1: 20 with transactions", s, 0)
	for k := range ids {
		wantBind(t, "P14.1: 20", s, ids[k], 0, true)
	}
	for range 3 * api.Lease {
		s.Tick()
		wantOpen(t, "P14.1: 20 that were silent", s, 0)
	}
	for _, one := range append([]int64{id(3, 21), id(2, 1)}, far...) {
		wantClose(t, "P14.1: of none", s, one, 0, false)
	}
	wantOpen(t, "P14.1: none of the 20 was closed", s, 0)
	wantTick(t, "P14.1: all stay", s, ids...)
}

// The last id of a broker is Base - 1; behind it there is none.
func TestLastNumber(t *testing.T) {
	s := New(2)
	s.opened = api.Base - 3
	wantOpen(t, "P14.1: the last but one", s, 3*api.Base-2)
	wantOpen(t, "P14.1: the last", s, 3*api.Base-1)
	for range 3 {
		wantOpen(t, "P14.1: behind the last", s, 0)
	}
	wantTouch(t, "P14.1: the last stays", s, 3*api.Base-1, true)
	wantTouch(t, "P14.1: behind the last", s, 3*api.Base, false)
	wantClose(t, "P14.1: the last", s, 3*api.Base-1, 0, true)
	wantOpen(t, "P14.1: the last was closed", s, 0)
}

func TestTouch(t *testing.T) {
	s, ids := open(t, 3)
	wantBind(t, "P14.1", s, ids[1], 50, true)
	for _, one := range ids {
		wantTouch(t, "P14.1: it is open", s, one, true)
		wantTouch(t, "P14.1: it is open, again", s, one, true)
	}
	wantRows(t, "P14.1: a Touch binds nothing", s, rowsOf(ids, 0, 50, 0)...)
	wantTouch(t, "P14.1: its transaction is no session", s, 50, false)
	wantTouch(t, "P14.1: who is to come", s, id(3, 4), false)
	wantOpen(t, "P14.1: a Touch opens nothing", s, id(3, 4))
	wantTouch(t, "P14.1: who came", s, id(3, 4), true)
	wantClose(t, "P14.1", s, ids[1], 50, true)
	wantTouch(t, "P14.1: who was closed", s, ids[1], false)
	wantTouch(t, "P14.1: who was closed, again", s, ids[1], false)
	wantClose(t, "P14.1: a Touch opens nobody anew", s, ids[1], 0, false)
}

// Whatever is asked of who is no session: false, 0, and all is as it was.
func TestOfNoSession(t *testing.T) {
	none := append([]int64{id(3, 4), id(3, 5), id(2, 1), 50, -50}, far...)
	s, ids := open(t, 4)
	wantBind(t, "P14.1", s, ids[0], 50, true)
	wantBind(t, "P14.1", s, ids[3], 60, true)
	wantClose(t, "P14.1", s, ids[3], 60, true)
	rows := rowsOf(ids, 50, 0, 0, 0)
	for _, one := range none {
		what := fmt.Sprintf("P14.1: no session %d", one)
		for range 2 {
			wantTouch(t, what, s, one, false)
			for _, tid := range append([]int64{50, 60, ids[0], one}, far...) {
				wantBind(t, what, s, one, tid, false)
			}
			wantClose(t, what, s, one, 0, false)
			if got := s.Tid(one); got != 0 {
				t.Errorf("%s: Tid %d", what, got)
			}
			wantRows(t, what, s, rows...)
		}
	}
	wantOpen(t, "P14.1: of none was asked", s, id(3, 5))
	wantBind(t, "P14.1: what none has got is free", s, ids[1], 60, true)
	for range api.Lease - 1 {
		wantTick(t, "P14.1: of none was asked", s)
	}
	wantTick(t, "P14.1: of none was asked", s, ids[0], ids[1], ids[2], id(3, 5))
}

func TestBind(t *testing.T) {
	s, ids := open(t, 2)
	for _, tid := range []int64{50, 50, 60, 50, 0, 0, 70, 70, 0, 60, 80, 50} {
		wantBind(t, "P14.1: no other has it", s, ids[0], tid, true)
		wantRows(t, fmt.Sprintf("P14.1: bound to %d", tid), s, rowsOf(ids, tid, 0)...)
	}
	wantBind(t, "P14.1: the other one", s, ids[1], 60, true)
	wantRows(t, "P14.1: both", s, rowsOf(ids, 50, 60)...)
	wantBind(t, "P14.1: both to none", s, ids[0], 0, true)
	wantRows(t, "P14.1: one to none", s, rowsOf(ids, 0, 60)...)
	wantBind(t, "P14.1: both to none", s, ids[1], 0, true)
	wantRows(t, "P14.1: both to none", s, rowsOf(ids, 0, 0)...)
}

// What another session has can't be had, as long as it has it.
func TestBindToWhatAnotherHas(t *testing.T) {
	for _, first := range []int{0, 1, 2} {
		s, ids := open(t, 3)
		one, other := ids[first], ids[(first+1)%3]
		what := fmt.Sprintf("P14.1: %d has it", one)
		wantBind(t, what, s, one, 50, true)
		for _, mine := range []int64{0, 60, 70} {
			wantBind(t, what, s, other, mine, true)
			for range 2 {
				wantBind(t, what, s, other, 50, false)
				wantRows(t, what, s, row{one, 50}, row{other, mine}, row{ids[(first+2)%3], 0})
			}
			wantBind(t, what+" already", s, one, 50, true)
			wantBind(t, what+", and the other its own", s, other, mine, true)
		}
		wantBind(t, what+", and the third", s, ids[(first+2)%3], 50, false)
		wantBind(t, what+", and the third", s, ids[(first+2)%3], 70, false)
		wantBind(t, what+", and the third", s, ids[(first+2)%3], 60, true)
		wantRows(t, what, s, row{one, 50}, row{other, 70}, row{ids[(first+2)%3], 60})
	}
}

// What a session gave up, in whichever way, another one may have.
func TestBindToWhatIsFreeAgain(t *testing.T) {
	for name, giveUp := range map[string]func(s *Sessions, id int64){
		"closed":           func(s *Sessions, id int64) { s.Close(id) },
		"bound to none":    func(s *Sessions, id int64) { s.Bind(id, 0) },
		"bound to another": func(s *Sessions, id int64) { s.Bind(id, 70) },
	} {
		for first := range 2 {
			what := fmt.Sprintf("P14.1: %s, place %d", name, first)
			s, ids := open(t, 2)
			one, other := ids[first], ids[1-first]
			wantBind(t, what, s, one, 50, true)
			wantBind(t, what, s, other, 50, false)
			giveUp(s, one)
			left := s.Tid(one)
			wantRows(t, what, s, row{one, left}, row{other, 0})
			wantBind(t, what, s, other, 50, true)
			wantRows(t, what, s, row{one, left}, row{other, 50})
			wantBind(t, what+", and back", s, one, 50, false)
			wantRows(t, what, s, row{one, left}, row{other, 50})
		}
	}
}

// Two can change what they have, by way of none.
func TestBindCrosswise(t *testing.T) {
	s, ids := open(t, 2)
	wantBind(t, "P14.1", s, ids[0], 50, true)
	wantBind(t, "P14.1", s, ids[1], 60, true)
	wantBind(t, "P14.1: crosswise", s, ids[0], 60, false)
	wantBind(t, "P14.1: crosswise", s, ids[1], 50, false)
	wantRows(t, "P14.1: crosswise", s, rowsOf(ids, 50, 60)...)
	wantBind(t, "P14.1", s, ids[0], 0, true)
	wantBind(t, "P14.1", s, ids[1], 50, true)
	wantBind(t, "P14.1", s, ids[0], 60, true)
	wantRows(t, "P14.1: changed", s, rowsOf(ids, 60, 50)...)
}

// Many may have none at once.
func TestBindAllToNone(t *testing.T) {
	s, ids := open(t, 20)
	for range 2 {
		for _, one := range ids {
			wantBind(t, "P14.1: to none", s, one, 0, true)
		}
		wantRows(t, "P14.1: all to none", s, rowsOf(ids, make([]int64, 20)...)...)
	}
	for _, one := range ids {
		wantClose(t, "P14.1: bound to none", s, one, 0, true)
	}
}

// Whether a transaction may be is no question here; one may be called as a session is.
func TestAnyTid(t *testing.T) {
	for _, tid := range append([]int64{id(3, 1), id(3, 2)}, far...) {
		if tid == 0 {
			continue
		}
		what := fmt.Sprintf("P14.1: the transaction %d", tid)
		s, ids := open(t, 2)
		if got := s.Of(tid); got != 0 {
			t.Errorf("%s: Of %d", what, got)
		}
		wantBind(t, what, s, ids[0], tid, true)
		wantBind(t, what, s, ids[1], tid, false)
		wantRows(t, what, s, rowsOf(ids, tid, 0)...)
		wantBind(t, what, s, ids[0], 50, true)
		wantBind(t, what, s, ids[1], tid, true)
		wantRows(t, what, s, rowsOf(ids, 50, tid)...)
		wantClose(t, what, s, ids[1], tid, true)
		wantRows(t, what, s, rowsOf(ids, 50, 0)...)
	}
}

func TestOf(t *testing.T) {
	s := New(3)
	wantRows(t, "P14.1: none was opened", s)
	s, ids := open(t, 20)
	wantRows(t, "P14.1: none has one", s, rowsOf(ids, make([]int64, 20)...)...)
	tids := make([]int64, 20)
	for k := range ids {
		place := (k*7 + 3) % 20
		tids[place] = int64(1000 - k)
		wantBind(t, "P14.1", s, ids[place], tids[place], true)
		wantRows(t, fmt.Sprintf("P14.1: %d have one", k+1), s, rowsOf(ids, tids...)...)
	}
	for k := range ids {
		place := (k*11 + 5) % 20
		wantClose(t, "P14.1", s, ids[place], tids[place], true)
		if got := s.Of(tids[place]); got != 0 {
			t.Errorf("P14.1: Of(%d) %d, which was closed", tids[place], got)
		}
		tids[place] = 0
		wantRows(t, fmt.Sprintf("P14.1: %d were closed", k+1), s, rowsOf(ids, tids...)...)
	}
}

func TestClose(t *testing.T) {
	s, ids := open(t, 5)
	for k, tid := range []int64{50, 0, 60, 70} {
		wantBind(t, "P14.1", s, ids[k], tid, true)
	}
	wantBind(t, "P14.1", s, ids[3], 0, true)
	wantRows(t, "P14.1: five", s, rowsOf(ids, 50, 0, 60, 0, 0)...)
	wantClose(t, "P14.1: it has one", s, ids[0], 50, true)
	wantRows(t, "P14.1: one was closed", s, rowsOf(ids, 0, 0, 60, 0, 0)...)
	wantClose(t, "P14.1: twice", s, ids[0], 0, false)
	wantClose(t, "P14.1: it was bound to none", s, ids[1], 0, true)
	wantClose(t, "P14.1: it had one, and was bound to none", s, ids[3], 0, true)
	wantClose(t, "P14.1: it was never bound", s, ids[4], 0, true)
	wantRows(t, "P14.1: one is left", s, rowsOf(ids, 0, 0, 60, 0, 0)...)
	wantBind(t, "P14.1: it changes", s, ids[2], 50, true)
	wantClose(t, "P14.1: the one that it had last", s, ids[2], 50, true)
	wantRows(t, "P14.1: all were closed", s, rowsOf(ids, 0, 0, 0, 0, 0)...)
	for _, one := range ids {
		wantClose(t, "P14.1: all were closed", s, one, 0, false)
		wantTouch(t, "P14.1: all were closed", s, one, false)
		wantBind(t, "P14.1: all were closed", s, one, 80, false)
	}
	wantOpen(t, "P14.1: all were closed", s, id(3, 6))
	wantRows(t, "P14.1: who comes later has none of it", s, row{id(3, 6), 0})
}

// Who is closed takes nobody along, wherever it stood.
func TestCloseFromEachPlace(t *testing.T) {
	for place := range 5 {
		what := fmt.Sprintf("P14.1: without %d", place+1)
		s, ids := open(t, 5)
		tids := []int64{90, 0, 80, 70, 60}
		for k := range ids {
			wantBind(t, what, s, ids[k], tids[k], true)
		}
		wantClose(t, what, s, ids[place], tids[place], true)
		tids[place] = 0
		wantRows(t, what, s, rowsOf(ids, tids...)...)
		for k := range ids {
			wantTouch(t, what, s, ids[k], k != place)
		}
	}
}

// One opens without the other, and closes without it, also where they are one broker's.
func TestSessionsShareNothing(t *testing.T) {
	a, b := New(3), New(3)
	wantOpen(t, "P14.1: the one", a, id(3, 1))
	wantBind(t, "P14.1: the one", a, id(3, 1), 50, true)
	wantTouch(t, "P14.1: the other", b, id(3, 1), false)
	wantOpen(t, "P14.1: the other", b, id(3, 1))
	wantRows(t, "P14.1: the other", b, row{id(3, 1), 0})
	wantOpen(t, "P14.1: the other", b, id(3, 2))
	wantBind(t, "P14.1: the other", b, id(3, 2), 50, true)
	wantTouch(t, "P14.1: the one", a, id(3, 2), false)
	for range api.Lease - 1 {
		wantTick(t, "P14.1: the one's ticks", a)
	}
	wantTick(t, "P14.1: the other's first", b)
	wantTouch(t, "P14.1: the other", b, id(3, 1), true)
	wantTick(t, "P14.1: the one's sixth", a, id(3, 1))
	wantClose(t, "P14.1: the one", a, id(3, 1), 50, true)
	wantRows(t, "P14.1: the other", b, row{id(3, 1), 0}, row{id(3, 2), 50})
	wantOpen(t, "P14.1: the one", a, id(3, 2))
}

// wantNothing holds that none can be opened, and that nothing is told of any.
func wantNothing(t *testing.T, what string, s *Sessions) {
	t.Helper()
	for range 30 {
		wantOpen(t, what, s, 0)
	}
	for _, one := range append([]int64{id(2, 1), id(3, 1), 50}, far...) {
		wantTouch(t, what, s, one, false)
		for _, tid := range append([]int64{one, 50}, far...) {
			wantBind(t, what, s, one, tid, false)
		}
		wantClose(t, what, s, one, 0, false)
		wantRows(t, what, s, row{one, 0})
		for range api.Lease + 1 {
			wantTick(t, what, s)
		}
	}
}

func TestNoBroker(t *testing.T) {
	for _, broker := range []int{math.MinInt, math.MinInt + 1, -1 << 32, -8, -3, -1, 0, 9, 10, 255, 1 << 31, 1 << 32, 1<<32 + 3, 1 << 40, math.MaxInt - 1, math.MaxInt} {
		wantNothing(t, fmt.Sprintf("P14.1: New(%d)", broker), New(broker))
	}
}

func TestNilSessions(t *testing.T) {
	var s *Sessions
	wantNothing(t, "P14.1: a nil *Sessions", s)
	if s.Tick() != nil {
		t.Error("P14.1: a nil *Sessions: Tick isn't nil")
	}
}

// A Sessions that New did not make opens none, and no call of it panics.
func TestSessionsNotByNew(t *testing.T) {
	wantNothing(t, "P0.1: a Sessions that New did not make", &Sessions{})
}
