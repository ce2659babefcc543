package store

import (
	"postillion/api"
	"postillion/kind"
)

// May tells whether s may be. That the lists rise is asked first, as the later questions look into them by halves.
func May(s api.State) bool {
	return mayNumbers(s) && mayRise(s) && mayWaits(s) && mayOpen(s) && mayNoes(s) && mayMessages(s)
}

// mayNumbers asks for a broker, and whether its numbers stand within their bounds.
func mayNumbers(s api.State) bool {
	return kind.Broker(s.Broker) && s.NextId >= 1 && s.NextId <= api.Base &&
		s.NextSeq >= 1 && s.NextSeq <= api.MaxNum && s.Tx >= 0 && s.Tx <= api.MaxTx
}

// mayRise asks whether all lists by rising Tid are that.
func mayRise(s api.State) bool {
	return rises(s.Waits, waitTid) && rises(s.Ends, endTid) && rises(s.Open, pendTid) && rises(s.Noes, pendTid)
}

// rises tells whether the list has Tids alone, which rise, and not too many.
func rises[T any](list []T, tidOf func(T) int64) bool {
	if len(list) > api.MaxEnds {
		return false
	}
	last := int64(0)
	for _, x := range list {
		tid := tidOf(x)
		if tid <= last || !kind.Tid(tid) {
			return false
		}
		last = tid
	}
	return true
}

// mayWaits asks whether what is prepared may be, and did not end.
func mayWaits(s api.State) bool {
	for _, w := range s.Waits {
		if !kind.Record(waitRecord(w)) || ended(s, w.Tid) {
			return false
		}
	}
	return true
}

// mayOpen asks whether what is to be decided is the broker's own, and neither ended nor is prepared.
func mayOpen(s api.State) bool {
	for _, p := range s.Open {
		if !mayPend(s, p) || ended(s, p.Tid) || prepared(s, p.Tid) {
			return false
		}
	}
	return true
}

// mayNoes asks whether what is to be told as a no is the broker's own, and ended so.
func mayNoes(s api.State) bool {
	for _, p := range s.Noes {
		at, is := place(s.Ends, p.Tid, endTid)
		if !mayPend(s, p) || !is || s.Ends[at].Yes {
			return false
		}
	}
	return true
}

// mayPend asks whether p is the broker's own transaction, and has Parts, other brokers all.
func mayPend(s api.State, p api.Pend) bool {
	return isOwn(s, p.Tid) && kind.Record(pendRecord(p)) && !isPart(s, p.Parts)
}

// mayMessages asks whether there is room for so many, each may be, their places rise, and no two have one Id.
func mayMessages(s api.State) bool {
	if len(s.Ms) > maxMessages {
		return false
	}
	last := int64(0)
	for k, m := range s.Ms {
		if m.Seq <= last || messageAt(s, m.Id) != k || !mayMessage(s, m) {
			return false
		}
		last = m.Seq
	}
	return last < s.NextSeq
}

// mayMessage asks whether m, by itself, may stand there.
func mayMessage(s api.State, m api.Message) bool {
	return isOwn(s, m.Id) && m.Id < int64(s.Broker)*api.Base+s.NextId &&
		kind.Put(api.Put{Queue: m.Queue, Body: m.Body}) &&
		m.Count >= 0 && m.Count <= maxCount &&
		(m.By == 0 || kind.Tid(m.By) && !ended(s, m.By))
}
