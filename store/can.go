package store

import (
	"slices"

	"postillion/api"
	"postillion/kind"
)

// Can is what stands against r in s, which may be; api.OK: nothing.
func Can(s api.State, r api.Record) api.Errno {
	switch {
	case !kind.Record(r):
		return api.ErrForm
	case r.Kind != api.RTold && ended(s, r.Tid):
		return api.ErrOver
	case isMissing(s, r):
		return api.ErrNone
	case isOther(s, r):
		return api.ErrOther
	case isBusy(s, r):
		return api.ErrBusy
	case isFull(s, r):
		return api.ErrFull
	}
	return api.OK
}

// isOwn tells whether the broker of s made that id.
func isOwn(s api.State, id int64) bool { return kind.Home(id) == s.Broker }

// isPart tells whether the broker of s is one of those.
func isPart(s api.State, parts []int) bool { return slices.Contains(parts, s.Broker) }

// isMissing: what r speaks of is not there.
func isMissing(s api.State, r api.Record) bool {
	switch r.Kind {
	case api.RTake:
		return messageAt(s, r.Id) < 0
	case api.RDone:
		return !prepared(s, r.Tid)
	case api.RTold:
		at, is := place(s.Noes, r.Tid, pendTid)
		return !is || !slices.Contains(s.Noes[at].Parts, r.Parts[0])
	}
	return false
}

// isOther: r is of a transaction of which such a record is not written here, or not any more.
func isOther(s api.State, r api.Record) bool {
	switch r.Kind {
	case api.RTx:
		return r.Tid != kind.Make(s.Broker, s.Tx+1)
	case api.RBack:
		return prepared(s, r.Tid) || open(s, r.Tid)
	case api.RPrep:
		return prepared(s, r.Tid) || isOwn(s, r.Tid)
	case api.RColl, api.RYes, api.RNo:
		return !isOwn(s, r.Tid) || prepared(s, r.Tid) || isPart(s, r.Parts) || r.Kind == api.RColl && open(s, r.Tid)
	}
	return false
}

// isBusy: somebody else has the message that r takes, or r's transaction takes no more.
func isBusy(s api.State, r api.Record) bool {
	if r.Kind != api.RTake {
		return false
	}
	by := s.Ms[messageAt(s, r.Id)].By
	return by != 0 && by != r.Tid || prepared(s, r.Tid) || open(s, r.Tid)
}

// isFull: there is no room for what r adds.
func isFull(s api.State, r api.Record) bool {
	switch r.Kind {
	case api.RTx:
		return s.Tx >= api.MaxTx
	case api.RPrep:
		return len(s.Waits) >= api.MaxEnds || !hasRoom(s, r.Puts)
	case api.RColl:
		return len(s.Open) >= api.MaxEnds
	case api.RBack, api.RDone:
		return len(s.Ends) >= api.MaxEnds
	case api.RYes:
		return len(s.Ends) >= api.MaxEnds || !hasRoom(s, r.Puts)
	case api.RNo:
		return len(s.Ends) >= api.MaxEnds || len(r.Parts) > 0 && len(s.Noes) >= api.MaxEnds
	}
	return false
}

// hasRoom tells whether those puts have room beside all that are prepared, which must be able to come whenever they are told of.
func hasRoom(s api.State, puts []api.Put) bool {
	coming := len(puts)
	for _, w := range s.Waits {
		coming += len(w.Puts)
	}
	return s.NextId <= api.Base-int64(coming) && s.NextSeq <= api.MaxNum-int64(coming) && len(s.Ms) <= maxMessages-coming
}
