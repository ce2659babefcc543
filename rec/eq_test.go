package rec

import (
	"math"
	"slices"
	"testing"

	"postillion/api"
)

// wantEq asks whether a and b are the same, both ways and twice.
func wantEq(t *testing.T, a, b api.Record, same bool) {
	t.Helper()
	for range 2 {
		if Eq(a, b) != same || Eq(b, a) != same {
			t.Errorf("P9.1: Eq of %s and %s: want %v", tell(a), tell(b), same)
		}
	}
}

// whole is a record of which no field is zero: Eq is asked also of what may not be.
func whole() api.Record {
	return api.Record{Kind: 4, Tid: tid, Id: base + 1, Yes: true, Parts: []int{2, 3, 5}, Puts: []api.Put{{Queue: "a", Body: "1"}, {Queue: "b", Body: "2"}, {Queue: "c"}}}
}

func TestEqSame(t *testing.T) {
	wantEq(t, api.Record{}, api.Record{}, true)
	wantEq(t, whole(), whole(), true)
	all, again := book(), book()
	for k, x := range all {
		for l, y := range again {
			wantEq(t, x.r, y.r, k == l)
		}
	}
	one := whole()
	wantEq(t, one, one, true)
}

// Each field by itself, of a whole record and of a zero one.
func TestEqFields(t *testing.T) {
	for _, turn := range []func(r *api.Record){
		func(r *api.Record) { r.Kind++ },
		func(r *api.Record) { r.Kind = -r.Kind - 1 },
		func(r *api.Record) { r.Kind += 1 << 16 },
		func(r *api.Record) { r.Kind = math.MinInt },
		func(r *api.Record) { r.Tid++ },
		func(r *api.Record) { r.Tid += base },
		func(r *api.Record) { r.Tid = math.MinInt64 },
		func(r *api.Record) { r.Id-- },
		func(r *api.Record) { r.Id += base },
		func(r *api.Record) { r.Id = math.MaxInt64 },
		func(r *api.Record) { r.Yes = !r.Yes },
		func(r *api.Record) { r.Parts = append(slices.Clone(r.Parts), 7) },
		func(r *api.Record) { r.Parts = append([]int{1}, r.Parts...) },
		func(r *api.Record) { r.Parts = append(slices.Clone(r.Parts), 0) },
		func(r *api.Record) { r.Puts = append(slices.Clone(r.Puts), api.Put{}) },
		func(r *api.Record) { r.Puts = append([]api.Put{{Queue: "a", Body: "1"}}, r.Puts...) },
	} {
		for _, was := range []api.Record{whole(), {}} {
			r := was
			turn(&r)
			wantEq(t, r, was, false)
			wantEq(t, r, r, true)
		}
	}
}

// Lists that are shorter, or unlike in one place, or like in another order.
func TestEqLists(t *testing.T) {
	for k := range 3 {
		r := whole()
		r.Parts[k]++
		wantEq(t, r, whole(), false)
		r = whole()
		r.Parts = slices.Delete(r.Parts, k, k+1)
		wantEq(t, r, whole(), false)
		r = whole()
		r.Parts[k], r.Parts[(k+1)%3] = r.Parts[(k+1)%3], r.Parts[k]
		wantEq(t, r, whole(), false)
		r = whole()
		r.Puts[k].Queue += "x"
		wantEq(t, r, whole(), false)
		r = whole()
		r.Puts[k].Body += "\x00"
		wantEq(t, r, whole(), false)
		r = whole()
		r.Puts[k] = api.Put{Queue: r.Puts[k].Body, Body: r.Puts[k].Queue}
		wantEq(t, r, whole(), false)
		r = whole()
		r.Puts = slices.Delete(r.Puts, k, k+1)
		wantEq(t, r, whole(), false)
		r = whole()
		r.Puts[k], r.Puts[(k+1)%3] = r.Puts[(k+1)%3], r.Puts[k]
		wantEq(t, r, whole(), false)
	}
	for n := range 3 {
		r := whole()
		r.Parts = r.Parts[:n]
		wantEq(t, r, whole(), false)
		r = whole()
		r.Puts = r.Puts[:n]
		wantEq(t, r, whole(), false)
	}
	joined := api.Record{Puts: []api.Put{{Queue: "ab", Body: "c"}}}
	wantEq(t, joined, api.Record{Puts: []api.Put{{Queue: "a", Body: "bc"}}}, false)
	wantEq(t, joined, api.Record{Puts: []api.Put{{Queue: "ab"}, {Body: "c"}}}, false)
}

func TestEqNil(t *testing.T) {
	wantEq(t, api.Record{Parts: []int{}}, api.Record{}, true)
	wantEq(t, api.Record{Puts: []api.Put{}}, api.Record{}, true)
	wantEq(t, api.Record{Parts: []int{}, Puts: []api.Put{}}, api.Record{}, true)
	wantEq(t, api.Record{Parts: []int{}}, api.Record{Puts: []api.Put{}}, true)
	wantEq(t, api.Record{Parts: make([]int, 0, 9)}, api.Record{Puts: make([]api.Put, 0, 9)}, true)
	wantEq(t, api.Record{Parts: []int{0}}, api.Record{}, false)
	wantEq(t, api.Record{Puts: []api.Put{{}}}, api.Record{}, false)
	wantEq(t, api.Record{Parts: []int{0}}, api.Record{Parts: []int{}}, false)
}

func TestEqLong(t *testing.T) {
	parts, puts := make([]int, 1<<20), make([]api.Put, 1<<18)
	long := api.Record{Parts: parts, Puts: puts}
	like := api.Record{Parts: slices.Clone(parts), Puts: slices.Clone(puts)}
	wantEq(t, long, like, true)
	like.Puts[len(puts)-1].Body = "x"
	wantEq(t, long, like, false)
	like = api.Record{Parts: slices.Clone(parts), Puts: slices.Clone(puts)}
	like.Parts[len(parts)-1] = 1
	wantEq(t, long, like, false)
}
