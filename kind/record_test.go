package kind

import (
	"math"
	"reflect"
	"slices"
	"strings"
	"testing"

	"postillion/api"
)

const tid = 3*base + 7

// kinds are all of records.
var kinds = []int{api.RTx, api.RTake, api.RBack, api.RPrep, api.RDone, api.RColl, api.RYes, api.RNo, api.RTold}

// noBrokers are none.
var noBrokers = append([]int{0, 9, 10}, farInts...)

// good is a record of that Kind that may be.
func good(kind int) api.Record {
	r := api.Record{Kind: kind, Tid: tid}
	switch kind {
	case api.RTake:
		r.Id = 8*base + 1
	case api.RColl, api.RTold:
		r.Parts = []int{5}
	}
	return r
}

func goodPuts(n int) []api.Put {
	var puts []api.Put
	for i := range n {
		puts = append(puts, api.Put{Queue: strings.Repeat(string(rune('a'+i%26)), 1+i%8), Body: strings.Repeat("\xfe", 6*(i%11))})
	}
	return puts
}

// wantRecord asks whether r may be; also with room behind its lists, with empty lists for nil ones, and twice; and holds that nothing was turned.
func wantRecord(t *testing.T, r api.Record, may bool) {
	t.Helper()
	if Record(r) != may {
		t.Errorf("P8.1: Record(%s) %v", tell(r), !may)
	}
	roomy := r
	parts := append(make([]int, 0, len(r.Parts)+2), r.Parts...)
	puts := append(make([]api.Put, 0, len(r.Puts)+2), r.Puts...)
	copy(parts[len(parts):cap(parts)], []int{9, 9})
	copy(puts[len(puts):cap(puts)], []api.Put{{Queue: "?"}, {Queue: "!"}})
	roomy.Parts, roomy.Puts = parts, puts
	wasParts, wasPuts := slices.Clone(parts[:cap(parts)]), slices.Clone(puts[:cap(puts)])
	for range 2 {
		if Record(roomy) != may {
			t.Errorf("P0.4, P0.5: Record(%s) with empty lists or room behind them, or asked twice: %v", tell(r), !may)
		}
	}
	if !slices.Equal(parts[:cap(parts)], wasParts) || !slices.Equal(puts[:cap(puts)], wasPuts) {
		t.Errorf("P0.3: Record(%s) turned its lists: %v, %v", tell(r), parts[:cap(parts)], puts[:cap(puts)])
	}
}

func TestRecordKinds(t *testing.T) {
	for _, kind := range kinds {
		wantRecord(t, good(kind), true)
	}
	for _, kind := range append([]int{0, 10, 11, 255}, farInts...) {
		for _, like := range kinds {
			r := good(like)
			r.Kind = kind
			wantRecord(t, r, false)
		}
	}
	wantRecord(t, api.Record{}, false)
}

func TestRecordTid(t *testing.T) {
	for _, kind := range kinds {
		r := good(kind)
		for broker := 1; broker <= 8; broker++ {
			for _, n := range []int64{1, 2, base - 2, base - 1} {
				r.Tid = int64(broker)*base + n
				wantRecord(t, r, true)
			}
			r.Tid = int64(broker) * base
			wantRecord(t, r, false)
		}
		for _, id := range far {
			r.Tid = id
			wantRecord(t, r, false)
		}
	}
}

func TestRecordId(t *testing.T) {
	ids := append([]int64{base + 1, 2*base - 1, tid, 8*base + 1, 9*base - 1}, far...)
	for _, kind := range kinds {
		for _, id := range ids {
			r := good(kind)
			r.Id = id
			if kind == api.RTake {
				wantRecord(t, r, Tid(id))
			} else {
				wantRecord(t, r, id == 0)
			}
		}
	}
}

func TestRecordYes(t *testing.T) {
	for _, kind := range kinds {
		r := good(kind)
		r.Yes = true
		wantRecord(t, r, kind == api.RDone)
		r.Yes = false
		wantRecord(t, r, true)
	}
}

func TestRecordHowManyParts(t *testing.T) {
	all := []int{1, 2, 3, 4, 5, 6, 7, 8}
	for _, kind := range kinds {
		least, most := 0, 0
		switch kind {
		case api.RColl:
			least, most = 1, 7
		case api.RNo:
			most = 7
		case api.RTold:
			least, most = 1, 1
		}
		for n := range 9 {
			r := good(kind)
			for _, parts := range [][]int{all[:n], all[8-n:]} {
				r.Parts = parts
				wantRecord(t, r, n >= least && n <= most)
			}
		}
		r := good(kind)
		r.Parts = slices.Repeat([]int{1}, 1000)
		wantRecord(t, r, false)
	}
	for left := range 8 {
		parts := slices.Delete(slices.Clone(all), left, left+1)
		wantRecord(t, api.Record{Kind: api.RColl, Tid: tid, Parts: parts}, true)
		wantRecord(t, api.Record{Kind: api.RNo, Tid: tid, Parts: parts}, true)
	}
}

func TestRecordParts(t *testing.T) {
	bad := [][]int{{1, 1}, {2, 2}, {8, 8}, {2, 1}, {3, 2}, {8, 1}, {1, 3, 2}, {1, 3, 3}, {1, 1, 2}, {2, 1, 3}, {1, 2, 3, 4, 5, 6, 6}, {1, 1, 2, 3, 4, 5, 6}, {1, 2, 3, 5, 4, 6, 7}, {7, 6, 5, 4, 3, 2, 1}}
	for _, none := range noBrokers {
		bad = append(bad, []int{none, 3}, []int{3, none}, []int{1, none, 8}, []int{none, none}, []int{1, 2, 3, 4, 5, 6, none}, []int{none, 2, 3, 4, 5, 6, 7})
		wantRecord(t, api.Record{Kind: api.RTold, Tid: tid, Parts: []int{none}}, false)
		wantRecord(t, api.Record{Kind: api.RColl, Tid: tid, Parts: []int{none}}, false)
		wantRecord(t, api.Record{Kind: api.RNo, Tid: tid, Parts: []int{none}}, false)
	}
	for _, parts := range bad {
		for _, kind := range kinds {
			r := good(kind)
			r.Parts = parts
			wantRecord(t, r, false)
		}
	}
	for broker := 1; broker <= 8; broker++ {
		for _, kind := range kinds {
			r := good(kind)
			r.Parts = []int{broker}
			wantRecord(t, r, kind == api.RColl || kind == api.RNo || kind == api.RTold)
		}
	}
	// Whose transaction it is does not matter: a broker may be among the Parts of its own.
	wantRecord(t, api.Record{Kind: api.RColl, Tid: 2*base + 1, Parts: []int{1, 2, 3}}, true)
}

// Each list of two brokers, and of some that are none.
func TestRecordPairs(t *testing.T) {
	for a := -1; a <= 10; a++ {
		for b := -1; b <= 10; b++ {
			may := a >= 1 && a < b && b <= 8
			wantRecord(t, api.Record{Kind: api.RColl, Tid: tid, Parts: []int{a, b}}, may)
			wantRecord(t, api.Record{Kind: api.RNo, Tid: tid, Parts: []int{a, b}}, may)
			wantRecord(t, api.Record{Kind: api.RTold, Tid: tid, Parts: []int{a, b}}, false)
		}
	}
}

func TestRecordPuts(t *testing.T) {
	bad := []api.Put{{}, {Body: "x"}, {Queue: "Q"}, {Queue: "abcdefghi"}, {Queue: "a1"}, {Queue: "\xff"}, {Queue: "q", Body: strings.Repeat("x", 61)}, {Queue: "Q", Body: strings.Repeat("x", 61)}}
	for _, kind := range kinds {
		puts := kind == api.RPrep || kind == api.RYes
		for _, n := range []int{0, 1, 2, 9, 10, 11, 12, 266, 1000} {
			r := good(kind)
			r.Puts = goodPuts(n)
			wantRecord(t, r, n == 0 || puts && n <= 10)
		}
		for _, n := range []int{1, 2, 10} {
			for place := range n {
				for _, put := range bad {
					r := good(kind)
					r.Puts = goodPuts(n)
					r.Puts[place] = put
					wantRecord(t, r, false)
				}
			}
		}
		r := good(kind)
		r.Puts = slices.Repeat([]api.Put{{Queue: "q", Body: "twice"}}, 10)
		wantRecord(t, r, puts)
	}
}

// has tells by letters what each Kind has, as the chapter says it: i Id, y Yes, p Puts, o one Part, n Parts or none, m Parts, one at least.
var has = map[int]string{1: "", 2: "i", 3: "", 4: "p", 5: "y", 6: "m", 7: "p", 8: "n", 9: "o"}

// plain says, more plainly than the program, whether r may be.
func plain(r api.Record) bool {
	letters, is := has[r.Kind]
	if !is || r.Tid < 1 || r.Tid >= 9*base || r.Tid>>32 == 0 || r.Tid%base == 0 {
		return false
	}
	if strings.Contains(letters, "i") {
		if r.Id < 1 || r.Id >= 9*base || r.Id>>32 == 0 || r.Id%base == 0 {
			return false
		}
		r.Id = 0
	}
	if strings.Contains(letters, "y") {
		r.Yes = false
	}
	if strings.Contains(letters, "p") && len(r.Puts) <= 10 {
		if slices.ContainsFunc(r.Puts, func(p api.Put) bool {
			return p.Queue == "" || len(p.Queue) > 8 || len(p.Body) > 60 || strings.Trim(p.Queue, "abcdefghijklmnopqrstuvwxyz") != ""
		}) {
			return false
		}
		r.Puts = nil
	}
	if few, many := strings.Contains(letters, "o"), strings.ContainsAny(letters, "nm"); few && len(r.Parts) == 1 || many && len(r.Parts) < 8 {
		if strings.Contains(letters, "m") && len(r.Parts) == 0 {
			return false
		}
		sorted := slices.Compact(slices.Sorted(slices.Values(r.Parts)))
		if !slices.Equal(sorted, r.Parts) || len(sorted) > 0 && (sorted[0] < 1 || sorted[len(sorted)-1] > 8) {
			return false
		}
		r.Parts = nil
	} else if few {
		return false
	}
	return r.Id == 0 && !r.Yes && len(r.Parts) == 0 && len(r.Puts) == 0
}

// thrown is a record of which much, or little, is as it may be.
func thrown(d *dice) api.Record {
	r := good(d.throw(12) - 1)
	r.Tid = d.tid()
	for range d.throw(3) {
		switch d.throw(6) {
		case 0:
			r.Tid = d.id()
		case 1:
			r.Id = d.id()
		case 2:
			r.Yes = d.throw(2) == 0
		case 3:
			for r.Parts = nil; d.throw(4) > 0; {
				r.Parts = append(r.Parts, min(len(r.Parts)+1, d.throw(8))+d.throw(3))
			}
		case 4:
			r.Puts = goodPuts(d.throw(13))
		case 5:
			r.Puts = append(r.Puts, api.Put{Queue: "qR"[:d.throw(3)], Body: strings.Repeat("b", 59+d.throw(3))})
		}
	}
	return r
}

func TestRecordStepByStep(t *testing.T) {
	d := dice(88)
	var may, mayNot [10]int
	for range 200000 {
		r := thrown(&d)
		wantRecord(t, r, plain(r))
		if r.Kind < 1 || r.Kind > 9 {
			continue
		}
		if plain(r) {
			may[r.Kind]++
		} else {
			mayNot[r.Kind]++
		}
	}
	for _, kind := range kinds {
		if may[kind] < 1000 || mayNot[kind] < 1000 {
			t.Errorf("of Kind %d only %d that may be and %d that may not were asked about", kind, may[kind], mayNot[kind])
		}
	}
}

// A record has just these fields; one more, and the tests above would have to ask about it too.
func TestRecordFields(t *testing.T) {
	if n := reflect.TypeFor[api.Record]().NumField(); n != 6 {
		t.Errorf("a record has %d fields", n)
	}
	if n := reflect.TypeFor[api.Packet]().NumField(); n != 6 {
		t.Errorf("a packet has %d fields", n)
	}
}

// The lists may be of any length: they are not gone through where they are too long.
func TestRecordLong(t *testing.T) {
	parts, puts := make([]int, 1<<20), make([]api.Put, 1<<18)
	for i := range parts {
		parts[i] = i + 1
	}
	for i := range puts {
		puts[i].Queue = "q"
	}
	for _, kind := range append([]int{0, 10, math.MaxInt}, kinds...) {
		r := good(kind)
		r.Parts = parts
		if Record(r) {
			t.Errorf("P8.1: Record of Kind %d with %d Parts", kind, len(parts))
		}
		r = good(kind)
		r.Puts = puts
		if Record(r) {
			t.Errorf("P8.1: Record of Kind %d with %d Puts", kind, len(puts))
		}
	}
}
