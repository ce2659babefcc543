package keep

import (
	"postillion/api"
	"postillion/byt"
	"postillion/file"
	"postillion/seg"
	"postillion/store"
	"postillion/sum"
)

// The files beside the log's. A state is laid in nextFile, so that a fall leaves either the elder one or the whole of the new one.
const (
	stateFile = "state"
	nextFile  = "next"
)

// readState is the state that the log begins behind, and the number of the log's first segment.
func readState(d *file.Disk, broker int) (api.State, int, api.Errno) {
	b, is := d.Read(stateFile)
	if !is {
		return store.New(broker), 0, api.OK
	}
	s, from, err := decode(b)
	if err != api.OK || s.Broker != broker {
		return api.State{}, 0, api.ErrCorrupt
	}
	return s, from, api.OK
}

// writeState puts s, behind which the log goes on at the segment from, into the place of the elder state, for sure.
func writeState(d *file.Disk, s api.State, from int) api.Errno {
	if err := drop(d, nextFile); err != api.OK {
		return err
	}
	if err := d.Append(nextFile, encode(s, from)); err != api.OK {
		return err
	}
	if err := d.Sync(nextFile); err != api.OK {
		return err
	}
	return d.Rename(nextFile, stateFile)
}

// drop lets a file be gone, if it is there.
func drop(d *file.Disk, name string) api.Errno {
	if err := d.Delete(name); err != api.ErrNone {
		return err
	}
	return api.OK
}

// encode is the bytes of the file: a sum of all that stands behind it, the number of the segment, the state.
func encode(s api.State, from int) []byte {
	var number, head byt.Out
	number.Small(from)
	body := append(number.B, store.Encode(s)...)
	head.Long(int64(sum.Of(body)))
	return append(head.B, body...)
}

// decode is the state, and the number of the segment, whose bytes b are; api.ErrCorrupt: they are not what encode makes. Where bytes are missing, nothing is left to be a state's.
func decode(b []byte) (api.State, int, api.Errno) {
	i := byt.Read(b)
	told := i.Long()
	found := int64(sum.Of(rest(b, i)))
	from := i.Small()
	s, err := store.Decode(rest(b, i))
	if err != api.OK || told != found || seg.Name(from) == "" {
		return api.State{}, 0, api.ErrCorrupt
	}
	return s, from, api.OK
}

// rest is what i, which reads b, has not read yet.
func rest(b []byte, i *byt.In) []byte { return b[len(b)-i.Left():] }
