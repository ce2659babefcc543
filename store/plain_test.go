package store

import (
	"maps"
	"slices"
	"strings"

	"postillion/api"
)

// plain is a state, said by another way: what goes by Tid stands in maps, and each message has its place by its Seq.
type plain struct {
	broker              int
	nextId, nextSeq, tx int64
	ms                  map[int64]api.Message // by Id
	waits               map[int64][]api.Put
	ends                map[int64]bool
	open, noes          map[int64][]int
}

func plainOf(s api.State) plain {
	p := plain{s.Broker, s.NextId, s.NextSeq, s.Tx, map[int64]api.Message{}, map[int64][]api.Put{}, map[int64]bool{}, map[int64][]int{}, map[int64][]int{}}
	for _, m := range s.Ms {
		p.ms[m.Id] = m
	}
	for _, w := range s.Waits {
		p.waits[w.Tid] = slices.Clone(w.Puts)
	}
	for _, e := range s.Ends {
		p.ends[e.Tid] = e.Yes
	}
	for _, x := range s.Open {
		p.open[x.Tid] = slices.Clone(x.Parts)
	}
	for _, x := range s.Noes {
		p.noes[x.Tid] = slices.Clone(x.Parts)
	}
	return p
}

func (p plain) state() api.State {
	s := api.State{Broker: p.broker, NextId: p.nextId, NextSeq: p.nextSeq, Tx: p.tx}
	bySeq := map[int64]int64{}
	for at, m := range p.ms {
		bySeq[m.Seq] = at
	}
	for _, seq := range slices.Sorted(maps.Keys(bySeq)) {
		s.Ms = append(s.Ms, p.ms[bySeq[seq]])
	}
	for _, tid := range slices.Sorted(maps.Keys(p.waits)) {
		s.Waits = append(s.Waits, api.Branch{Tid: tid, Puts: p.waits[tid]})
	}
	for _, tid := range slices.Sorted(maps.Keys(p.ends)) {
		s.Ends = append(s.Ends, api.End{Tid: tid, Yes: p.ends[tid]})
	}
	for _, tid := range slices.Sorted(maps.Keys(p.open)) {
		s.Open = append(s.Open, api.Pend{Tid: tid, Parts: p.open[tid]})
	}
	for _, tid := range slices.Sorted(maps.Keys(p.noes)) {
		s.Noes = append(s.Noes, api.Pend{Tid: tid, Parts: p.noes[tid]})
	}
	return s
}

func plainTid(t int64) bool { return t > base && t < 9*base && t%base != 0 }

func plainPut(queue, body string) bool {
	return queue != "" && len(queue) <= 8 && strings.Trim(queue, "abcdefghijklmnopqrstuvwxyz") == "" && len(body) <= 60
}

func plainParts(parts []int, least, most int) bool {
	rising := slices.Clone(parts)
	slices.Sort(rising)
	rising = slices.Compact(rising)
	return slices.Equal(rising, parts) && len(parts) >= least && len(parts) <= most && (len(parts) == 0 || parts[0] >= 1 && parts[len(parts)-1] <= 8)
}

// plainRecord says, more plainly than the program, whether r may be.
func plainRecord(r api.Record) bool {
	least, most, mostPuts := 0, 0, 0
	switch r.Kind {
	case 1, 2, 3, 5:
	case 4, 7:
		mostPuts = 10
	case 6:
		least, most = 1, 7
	case 8:
		most = 7
	case 9:
		least, most = 1, 1
	default:
		return false
	}
	if !plainTid(r.Tid) || r.Kind == 2 && !plainTid(r.Id) || r.Kind != 2 && r.Id != 0 || r.Yes && r.Kind != 5 {
		return false
	}
	for _, x := range r.Puts {
		if !plainPut(x.Queue, x.Body) {
			return false
		}
	}
	return plainParts(r.Parts, least, most) && len(r.Puts) <= mostPuts
}

// plainMay says, more plainly than the program, whether s may be.
func plainMay(s api.State) bool {
	if s.Broker < 1 || s.Broker > 8 || s.NextId < 1 || s.NextId > 1<<32 || s.NextSeq < 1 || s.NextSeq > 1<<40 || s.Tx < 0 || s.Tx > 200 {
		return false
	}
	// What went into the maps and came back is what it was only if nothing came twice and all rose.
	p := plainOf(s)
	if !same(p.state(), s) || len(s.Ms) > 72 || len(s.Waits) > 2000 || len(s.Ends) > 2000 || len(s.Open) > 2000 || len(s.Noes) > 2000 {
		return false
	}
	for _, tids := range [][]int64{slices.Collect(maps.Keys(p.waits)), slices.Collect(maps.Keys(p.ends)), slices.Collect(maps.Keys(p.open)), slices.Collect(maps.Keys(p.noes))} {
		if slices.ContainsFunc(tids, func(t int64) bool { return !plainTid(t) }) {
			return false
		}
	}
	ended := func(tid int64) bool { _, is := p.ends[tid]; return is }
	for at, m := range p.ms {
		number := at - int64(s.Broker)*base
		if number < 1 || number >= s.NextId || m.Seq < 1 || m.Seq >= s.NextSeq || !plainPut(m.Queue, m.Body) || m.Count < 0 || m.Count > 1000 {
			return false
		}
		if m.By != 0 && (!plainTid(m.By) || ended(m.By)) {
			return false
		}
	}
	for tid, puts := range p.waits {
		if len(puts) > 10 || ended(tid) || slices.ContainsFunc(puts, func(x api.Put) bool { return !plainPut(x.Queue, x.Body) }) {
			return false
		}
	}
	for tid, parts := range p.open {
		_, waits := p.waits[tid]
		if ended(tid) || waits || tid/base != int64(s.Broker) || !plainParts(parts, 1, 7) || slices.Contains(parts, s.Broker) {
			return false
		}
	}
	for tid, parts := range p.noes {
		if !ended(tid) || p.ends[tid] || tid/base != int64(s.Broker) || !plainParts(parts, 1, 7) || slices.Contains(parts, s.Broker) {
			return false
		}
	}
	return true
}

// can is what stands against r: all that does is asked, and then the first is told.
func (p plain) can(r api.Record) api.Errno {
	if !plainRecord(r) {
		return 1
	}
	against := map[api.Errno]bool{}
	note := func(err api.Errno, is bool) { against[err] = against[err] || is }
	_, isOver := p.ends[r.Tid]
	_, waits := p.waits[r.Tid]
	_, inOpen := p.open[r.Tid]
	own, itself := r.Tid/base == int64(p.broker), slices.Contains(r.Parts, p.broker)
	note(9, isOver && r.Kind != 9)
	puts := int64(len(r.Puts))
	for _, w := range p.waits {
		puts += int64(len(w))
	}
	noRoom := p.nextId+puts > 1<<32 || int64(len(p.ms))+puts > 72 || p.nextSeq+puts > 1<<40
	switch r.Kind {
	case 1:
		note(12, r.Tid != int64(p.broker)*base+p.tx+1)
		note(5, p.tx == 200)
	case 2:
		m, is := p.ms[r.Id]
		note(6, !is)
		note(8, m.By != 0 && m.By != r.Tid || waits || inOpen)
	case 3:
		note(12, waits || inOpen)
		note(5, len(p.ends) == 2000)
	case 4:
		note(12, waits || own)
		note(5, len(p.waits) == 2000 || noRoom)
	case 5:
		note(6, !waits)
		note(5, len(p.ends) == 2000)
	case 6:
		note(12, !own || waits || itself || inOpen)
		note(5, len(p.open) == 2000)
	case 7:
		note(12, !own || waits)
		note(5, len(p.ends) == 2000 || noRoom)
	case 8:
		note(12, !own || waits || itself)
		note(5, len(p.ends) == 2000 || len(r.Parts) > 0 && len(p.noes) == 2000)
	case 9:
		note(6, !slices.Contains(p.noes[r.Tid], r.Parts[0]))
	}
	for _, err := range []api.Errno{9, 6, 12, 8, 5} {
		if against[err] {
			return err
		}
	}
	return 0
}

// apply turns p by r, which can be.
func (p *plain) apply(r api.Record) {
	switch r.Kind {
	case 1:
		p.tx++
	case 2:
		m := p.ms[r.Id]
		m.By = r.Tid
		p.ms[r.Id] = m
	case 3:
		p.end(r.Tid, false, nil)
	case 4:
		p.waits[r.Tid] = slices.Clone(r.Puts)
	case 5:
		p.end(r.Tid, r.Yes, p.waits[r.Tid])
	case 6:
		p.open[r.Tid] = slices.Clone(r.Parts)
	case 7:
		p.end(r.Tid, true, r.Puts)
	case 8:
		p.end(r.Tid, false, nil)
		if len(r.Parts) > 0 {
			p.noes[r.Tid] = slices.Clone(r.Parts)
		}
	case 9:
		var left []int
		for _, part := range p.noes[r.Tid] {
			if part != r.Parts[0] {
				left = append(left, part)
			}
		}
		p.noes[r.Tid] = left
		if left == nil {
			delete(p.noes, r.Tid)
		}
	}
}

func (p *plain) end(tid int64, yes bool, puts []api.Put) {
	for at, m := range p.ms {
		if m.By == tid && yes {
			delete(p.ms, at)
		}
		if m.By == tid && !yes {
			m.By = 0
			if m.Count < 1000 {
				m.Count++
			}
			p.ms[at] = m
		}
	}
	for _, x := range puts {
		if yes {
			at := int64(p.broker)*base + p.nextId
			p.ms[at] = api.Message{Id: at, Queue: x.Queue, Body: x.Body, Seq: p.nextSeq}
			p.nextId++
			p.nextSeq++
		}
	}
	p.ends[tid] = yes
	delete(p.waits, tid)
	delete(p.open, tid)
}
