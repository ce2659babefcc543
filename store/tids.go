package store

import (
	"cmp"
	"slices"

	"postillion/api"
)

func waitTid(w api.Branch) int64 { return w.Tid }

func endTid(e api.End) int64 { return e.Tid }

func pendTid(p api.Pend) int64 { return p.Tid }

// place is where in a list by rising Tid the one of that Tid stands, or would stand; false: it does not stand there.
func place[T any](list []T, tid int64, tidOf func(T) int64) (int, bool) {
	return slices.BinarySearchFunc(list, tid, func(x T, tid int64) int { return cmp.Compare(tidOf(x), tid) })
}

// with is the list, which is changed, with x at the place of its Tid.
func with[T any](list []T, x T, tidOf func(T) int64) []T {
	at, _ := place(list, tidOf(x), tidOf)
	return slices.Insert(list, at, x)
}

// without is the list, which is changed, without the one of that Tid.
func without[T any](list []T, tid int64, tidOf func(T) int64) []T {
	at, is := place(list, tid, tidOf)
	if !is {
		return list
	}
	return slices.Delete(list, at, at+1)
}

// ended tells whether tid ended at the broker of s.
func ended(s api.State, tid int64) bool {
	_, is := place(s.Ends, tid, endTid)
	return is
}

// prepared tells whether tid waits there until it knows.
func prepared(s api.State, tid int64) bool {
	_, is := place(s.Waits, tid, waitTid)
	return is
}

// open tells whether tid is to be decided there.
func open(s api.State, tid int64) bool {
	_, is := place(s.Open, tid, pendTid)
	return is
}

// messageAt is where in Ms the message of that Id stands; -1: it does not.
func messageAt(s api.State, id int64) int {
	return slices.IndexFunc(s.Ms, func(m api.Message) bool { return m.Id == id })
}
