package kind

import (
	"postillion/api"
)

// own is what records of one Kind have, beside Kind and Tid.
type own struct {
	hasId, hasYes         bool
	leastParts, mostParts int
	mostPuts              int
}

// ownOf is what records of that Kind have; false: there is no such Kind.
func ownOf(kind int) (own, bool) {
	// The broker that decides need not be told, so there are never all of them.
	const others = api.MaxBrokers - 1
	switch kind {
	case api.RTx, api.RBack:
		return own{}, true
	case api.RTake:
		return own{hasId: true}, true
	case api.RPrep, api.RYes:
		return own{mostPuts: api.MaxOps}, true
	case api.RDone:
		return own{hasYes: true}, true
	case api.RColl:
		return own{leastParts: 1, mostParts: others}, true
	case api.RNo:
		return own{mostParts: others}, true
	case api.RTold:
		return own{leastParts: 1, mostParts: 1}, true
	}
	return own{}, false
}

// id tells whether a record's Id may be that one.
func (o own) id(id int64) bool {
	if o.hasId {
		return Tid(id)
	}
	return id == 0
}

// parts tells whether a record's Parts may be those: neither too few nor too many, brokers, rising.
func (o own) parts(parts []int) bool {
	if len(parts) < o.leastParts || len(parts) > o.mostParts {
		return false
	}
	last := 0
	for _, part := range parts {
		if part <= last || !Broker(part) {
			return false
		}
		last = part
	}
	return true
}

// puts tells whether a record's Puts may be those: not too many, and each of them may be.
func (o own) puts(puts []api.Put) bool {
	if len(puts) > o.mostPuts {
		return false
	}
	for _, put := range puts {
		if !Put(put) {
			return false
		}
	}
	return true
}
