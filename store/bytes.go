package store

import (
	"postillion/api"
	"postillion/byt"
	"postillion/rec"
)

// Encode is the bytes of s; nil: s may not be.
func Encode(s api.State) []byte {
	if !May(s) {
		return nil
	}
	b := layNumbers(s)
	b = layAll(b, s.Ms, layMessage)
	b = layAll(b, s.Waits, layWait)
	b = layAll(b, s.Ends, layEnd)
	b = layAll(b, s.Open, layPend)
	return layAll(b, s.Noes, layPend)
}

// layNumbers is the bytes of what is no list.
func layNumbers(s api.State) []byte {
	var o byt.Out
	o.Small(s.Broker)
	o.Long(s.NextId)
	o.Long(s.NextSeq)
	o.Small(int(s.Tx))
	return o.B
}

// layAll is b, and behind it how many there are, and each of them. Each is laid in an Out of its own, as an Out copies all that it has at each put.
func layAll[T any](b []byte, list []T, lay func(*byt.Out, T)) []byte {
	var head byt.Out
	head.Small(len(list))
	b = append(b, head.B...)
	for _, x := range list {
		var o byt.Out
		lay(&o, x)
		b = append(b, o.B...)
	}
	return b
}

func layMessage(o *byt.Out, m api.Message) {
	o.Long(m.Id)
	o.Text(m.Queue)
	o.Text(m.Body)
	o.Long(m.Seq)
	o.Small(m.Count)
	o.Long(m.By)
}

func layWait(o *byt.Out, w api.Branch) { o.Text(string(rec.Encode(waitRecord(w)))) }

func layEnd(o *byt.Out, e api.End) {
	o.Long(e.Tid)
	o.Truth(e.Yes)
}

func layPend(o *byt.Out, p api.Pend) { o.Text(string(rec.Encode(pendRecord(p)))) }

// Decode is the state whose bytes b are; api.ErrForm: they are no state's.
func Decode(b []byte) (api.State, api.Errno) {
	i := byt.Read(b)
	s := api.State{
		Broker:  i.Small(),
		NextId:  i.Long(),
		NextSeq: i.Long(),
		Tx:      int64(i.Small()),
		Ms:      readAll(i, readMessage),
		Waits:   readAll(i, readWait),
		Ends:    readAll(i, readEnd),
		Open:    readAll(i, readPend),
		Noes:    readAll(i, readPend),
	}
	if !i.End() || !May(s) {
		return api.State{}, api.ErrForm
	}
	return s, api.OK
}

// readAll is as many as i says; it stops where the bytes end, lest it lay room for what only a number tells of.
func readAll[T any](i *byt.In, read func(*byt.In) T) []T {
	var list []T
	for n := i.Small(); n > 0 && !i.Bad(); n-- {
		list = append(list, read(i))
	}
	return list
}

func readMessage(i *byt.In) api.Message {
	return api.Message{Id: i.Long(), Queue: i.Text(), Body: i.Text(), Seq: i.Long(), Count: i.Small(), By: i.Long()}
}

// readWait is what waits, by its record; of bytes that are no such record's a zero one, which may not be.
func readWait(i *byt.In) api.Branch {
	r, _ := rec.Decode([]byte(i.Text()))
	if r.Kind != api.RPrep {
		return api.Branch{}
	}
	return api.Branch{Tid: r.Tid, Puts: r.Puts}
}

func readEnd(i *byt.In) api.End { return api.End{Tid: i.Long(), Yes: i.Truth()} }

// readPend is a transaction and brokers, by their record; of bytes that are no such record's a zero one, which may not be.
func readPend(i *byt.In) api.Pend {
	r, _ := rec.Decode([]byte(i.Text()))
	if r.Kind != api.RColl {
		return api.Pend{}
	}
	return api.Pend{Tid: r.Tid, Parts: r.Parts}
}
