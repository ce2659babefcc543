package lock

import (
	"fmt"
	"maps"
	"slices"
	"testing"
)

// dice throws numbers.
type dice uint64

func (d *dice) of(k int) int {
	*d = *d*6364136223846793005 + 1442695040888963407
	return int(uint64(*d)>>33) % k
}

// plainPart is a transaction's operations, as does tells of them, and the ticks behind its last word, counted on one by one.
type plainPart struct {
	ops []string
	age int
}

// plain is a Locks that keeps a part for each, and looks at all of them each time.
type plain map[int64]*plainPart

// do is one operation more of tid, if it has no ten yet.
func (p plain) do(tid int64, op string) bool {
	if p[tid] == nil {
		p[tid] = &plainPart{}
	}
	if len(p[tid].ops) == 10 {
		return false
	}
	p[tid].ops = append(p[tid].ops, op)
	p[tid].age = 0
	return true
}

func (p plain) tick() []int64 {
	var silent []int64
	for _, tid := range slices.Sorted(maps.Keys(p)) {
		p[tid].age++
		if p[tid].age > 5 {
			silent = append(silent, tid)
		}
	}
	return silent
}

func (p plain) rows() []row {
	var rows []row
	for _, tid := range slices.Sorted(maps.Keys(p)) {
		rows = append(rows, does(tid, p[tid].ops...))
	}
	return rows
}

// step lets both do the same, and holds what they answer against each other.
func (p plain) step(t *testing.T, what string, l *Locks, d *dice, tid int64) {
	t.Helper()
	switch d.of(12) {
	case 0, 1, 2:
		body := fmt.Sprint(d.of(1000))
		if got, want := l.Put(tid, put(body)), p.do(tid, body); got != want {
			t.Errorf("%s: Put(%d) %v", what, tid, got)
		}
	case 3, 4, 5:
		if got, want := l.Took(tid), p.do(tid, "-"); got != want {
			t.Errorf("%s: Took(%d) %v", what, tid, got)
		}
	case 6, 7:
		wantTouch(t, what, l, tid, p[tid] != nil)
		if p[tid] != nil {
			p[tid].age = 0
		}
	case 8:
		wantDrop(t, what, l, tid, p[tid] != nil)
		delete(p, tid)
	default:
		wantTick(t, what, l, p.tick()...)
	}
}

// Steps of all kinds, held against a plainer Locks behind each.
func TestAgainstPlain(t *testing.T) {
	d := dice(13)
	refused, told := 0, 0
	for run := range 150 {
		p, l := plain{}, New()
		many := run%9 + 1
		for step := range 200 {
			what := fmt.Sprintf("P13.1: run %d, step %d", run, step)
			p.step(t, what, l, &d, int64(d.of(many)-many/2))
			wantRows(t, what, l, p.rows()...)
			if t.Failed() {
				return
			}
			for _, one := range p {
				refused += len(one.ops) / 10
				told += one.age / 6
			}
		}
	}
	if refused == 0 || told == 0 {
		t.Error("P13.1: none had ten operations, or none was silent for long enough:", refused, told)
	}
}
