package store

import (
	"slices"

	"postillion/api"
	"postillion/kind"
)

// Apply is what r makes of s; s as it was, if it may not be or r can't be.
func Apply(s api.State, r api.Record) api.State {
	now := clone(s)
	if May(s) && Can(s, r) == api.OK {
		turn(&now, r)
	}
	return now
}

// turn makes of s, which may be, what r makes of it, which can be.
func turn(s *api.State, r api.Record) {
	switch r.Kind {
	case api.RTx:
		s.Tx++
	case api.RTake:
		s.Ms[messageAt(*s, r.Id)].By = r.Tid
	case api.RBack:
		endIll(s, r.Tid)
	case api.RPrep:
		s.Waits = with(s.Waits, api.Branch{Tid: r.Tid, Puts: slices.Clone(r.Puts)}, waitTid)
	case api.RDone:
		if r.Yes {
			endWell(s, r.Tid, putsOf(*s, r.Tid))
		} else {
			endIll(s, r.Tid)
		}
	case api.RColl:
		s.Open = with(s.Open, pendOf(r), pendTid)
	case api.RYes:
		endWell(s, r.Tid, r.Puts)
	case api.RNo:
		endIll(s, r.Tid)
		if len(r.Parts) > 0 {
			s.Noes = with(s.Noes, pendOf(r), pendTid)
		}
	case api.RTold:
		told(s, r.Tid, r.Parts[0])
	}
}

// putsOf is what tid, which is prepared, puts.
func putsOf(s api.State, tid int64) []api.Put {
	at, _ := place(s.Waits, tid, waitTid)
	return s.Waits[at].Puts
}

// pendOf is r's transaction and its Parts, in memory of their own.
func pendOf(r api.Record) api.Pend {
	return api.Pend{Tid: r.Tid, Parts: slices.Clone(r.Parts)}
}

// endWell lets go what tid has taken, and lets those puts come.
func endWell(s *api.State, tid int64, puts []api.Put) {
	s.Ms = slices.DeleteFunc(s.Ms, func(m api.Message) bool { return m.By == tid })
	for _, put := range puts {
		s.Ms = append(s.Ms, api.Message{Id: kind.Make(s.Broker, s.NextId), Queue: put.Queue, Body: put.Body, Seq: s.NextSeq})
		s.NextId++
		s.NextSeq++
	}
	end(s, tid, true)
}

// endIll gives back what tid has taken.
func endIll(s *api.State, tid int64) {
	for k := range s.Ms {
		if m := &s.Ms[k]; m.By == tid {
			m.By = 0
			m.Count = min(m.Count+1, maxCount)
		}
	}
	end(s, tid, false)
}

// end notes how tid ended: it neither waits nor is to be decided any more.
func end(s *api.State, tid int64, yes bool) {
	s.Ends = with(s.Ends, api.End{Tid: tid, Yes: yes}, endTid)
	s.Waits = without(s.Waits, tid, waitTid)
	s.Open = without(s.Open, tid, pendTid)
}

// told takes that part from those that are still to be told of tid, and tid itself, if it was the last one.
func told(s *api.State, tid int64, part int) {
	at, _ := place(s.Noes, tid, pendTid)
	left := slices.DeleteFunc(s.Noes[at].Parts, func(p int) bool { return p == part })
	s.Noes[at].Parts = left
	if len(left) == 0 {
		s.Noes = without(s.Noes, tid, pendTid)
	}
}
