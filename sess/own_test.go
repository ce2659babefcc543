package sess

import (
	"slices"
	"testing"

	"postillion/api"
)

// fill writes x into all of list and the room behind it.
func fill(list []int64, x int64) {
	list = list[:cap(list)]
	for k := range list {
		list[k] = x
	}
}

// Whoever writes into a list that Tick told, its spare room too, changes neither the Sessions nor another answer.
func TestAnswersAreTheCallersOwn(t *testing.T) {
	s, ids := open(t, 3)
	tids := []int64{50, 0, 60}
	for k := range ids {
		wantBind(t, "P14.1", s, ids[k], tids[k], true)
	}
	for range api.Lease - 1 {
		wantTick(t, "P14.1", s)
	}
	for range 5 {
		told, other := s.Tick(), s.Tick()
		if !slices.Equal(told, ids) || !slices.Equal(other, ids) {
			t.Fatalf("P14.1: Tick %v, %v", told, other)
		}
		fill(told, 99)
		if !slices.Equal(other, ids) {
			t.Errorf("P0.3: what a Tick told was written into, and another is %v", other)
		}
		wantTick(t, "P0.3: what a Tick told was written into", s, ids...)
		wantRows(t, "P0.3: what a Tick told was written into", s, rowsOf(ids, tids...)...)
		wantTouch(t, "P0.3: what a Tick told was written into", s, 99, false)
	}
	wantOpen(t, "P0.3", s, id(3, 4))
	for k := range ids {
		wantClose(t, "P0.3", s, ids[k], tids[k], true)
	}
}

// What was told stays, whatever comes later.
func TestAnswersStay(t *testing.T) {
	s, ids := open(t, 4)
	for range api.Lease - 1 {
		s.Tick()
	}
	told := s.Tick()
	for k, one := range ids {
		s.Bind(one, int64(k)+50)
		s.Close(one)
		s.Open()
		s.Tick()
	}
	if !slices.Equal(told, ids) {
		t.Errorf("P0.3: what came later turned what a Tick told: %v", told)
	}
}
