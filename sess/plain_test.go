package sess

import (
	"fmt"
	"testing"
)

// dice throws numbers.
type dice uint64

func (d *dice) of(k int) int {
	*d = *d*6364136223846793005 + 1442695040888963407
	return int(uint64(*d)>>33) % k
}

// plainOne is a session, ahead of its end or behind it, and the ticks behind its last word, counted on one by one.
type plainOne struct {
	open bool
	tid  int64
	age  int
}

// plain is a Sessions of broker 4 that keeps all that there ever were, the first of them at place 0, and looks at all of them each time.
type plain []plainOne

// many is how many are open.
func (p plain) many() int {
	many := 0
	for _, one := range p {
		if one.open {
			many++
		}
	}
	return many
}

func (p *plain) open() int64 {
	if p.many() > 19 {
		return 0
	}
	*p = append(*p, plainOne{open: true})
	return id(4, int64(len(*p)))
}

// at is the session of that id, if it is open.
func (p plain) at(one int64) *plainOne {
	n := one - id(4, 1)
	if n < 0 || n >= int64(len(p)) || !p[n].open {
		return nil
	}
	return &p[n]
}

func (p plain) of(tid int64) int64 {
	for n := range p {
		if p[n].open && p[n].tid == tid && tid != 0 {
			return id(4, int64(n)+1)
		}
	}
	return 0
}

func (p plain) bind(one, tid int64) bool {
	ses, owner := p.at(one), p.of(tid)
	if ses == nil || owner != 0 && owner != one {
		return false
	}
	ses.tid, ses.age = tid, 0
	return true
}

func (p plain) close(one int64) (int64, bool) {
	ses := p.at(one)
	if ses == nil {
		return 0, false
	}
	ses.open = false
	return ses.tid, true
}

func (p plain) tick() []int64 {
	var silent []int64
	for n := range p {
		p[n].age++
		if p[n].open && p[n].age > 5 {
			silent = append(silent, id(4, int64(n)+1))
		}
	}
	return silent
}

// rows is what all that there ever were have.
func (p plain) rows() []row {
	var rows []row
	for n := range p {
		r := row{id: id(4, int64(n)+1)}
		if p[n].open {
			r.tid = p[n].tid
		}
		rows = append(rows, r)
	}
	return rows
}

// step lets both do the same, and holds what they answer against each other; the greater opens is, the more are opened.
func (p *plain) step(t *testing.T, what string, s *Sessions, d *dice, opens int) {
	t.Helper()
	// Of the youngest the most are open.
	one := id(4, int64(len(*p)+2-d.of(30)))
	tid := int64(d.of(9)) * 10
	switch d.of(10 + opens) {
	case 0, 1:
		ses := p.at(one)
		wantTouch(t, what, s, one, ses != nil)
		if ses != nil {
			ses.age = 0
		}
	case 2, 3, 4, 5:
		wantBind(t, what, s, one, tid, p.bind(one, tid))
	case 6, 7:
		tid, was := p.close(one)
		wantClose(t, what, s, one, tid, was)
	case 8, 9:
		wantTick(t, what, s, p.tick()...)
	default:
		wantOpen(t, what, s, p.open())
	}
}

// tally is how often there were things that are easily never there: 20 at once, transactions, and who was silent for a whole lease.
type tally struct{ full, bound, silent int }

func (y *tally) of(p plain) {
	y.full += p.many() / 20
	for _, one := range p {
		if one.open && one.tid != 0 {
			y.bound++
		}
		if one.open && one.age > 5 {
			y.silent++
		}
	}
}

// Steps of all kinds, held against a plainer Sessions behind each.
func TestAgainstPlain(t *testing.T) {
	d, y := dice(14), tally{}
	for run := range 120 {
		p, s := plain{}, New(4)
		for step := range 300 {
			what := fmt.Sprintf("P14.1: run %d, step %d", run, step)
			p.step(t, what, s, &d, run%6+1)
			wantRows(t, what, s, p.rows()...)
			if t.Failed() {
				return
			}
			y.of(p)
		}
	}
	if y.full == 0 || y.bound == 0 || y.silent == 0 {
		t.Error("P14.1: something was never there:", y)
	}
}
