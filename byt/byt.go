// Package byt: bytes in a row: see doc/01-byt.md.
package byt

import "slices"

// Widths of what is put, in bytes.
const (
	truthWide = 1
	smallWide = 2
	longWide  = 8
)

// Out has the bytes that were put, in order.
type Out struct {
	B []byte
}

// Small puts two bytes, the lower one first: the lowest sixteen bits of n.
func (o *Out) Small(n int) {
	o.put(byte(n), byte(n>>8))
}

// Long puts eight bytes, the lowest one first.
func (o *Out) Long(n int64) {
	var b [longWide]byte
	for k := range b {
		b[k] = byte(n >> (8 * k))
	}
	o.put(b[:]...)
}

// Text puts the length of s (its lowest sixteen bits), and as many bytes of s as that says.
func (o *Out) Text(s string) {
	n := int(uint16(len(s)))
	o.Small(n)
	o.put([]byte(s[:n])...)
}

// Truth puts a byte, 1 or 0.
func (o *Out) Truth(x bool) {
	if x {
		o.put(1)
	} else {
		o.put(0)
	}
}

// put lays the longer row in new memory: B may be a piece of somebody's longer list, whose spare room is not to be written into.
func (o *Out) put(b ...byte) {
	if o != nil {
		o.B = slices.Concat(o.B, b)
	}
}

// In reads what an Out has put. It keeps a text, not the list that was handed in, so that whoever changes that list changes nothing here.
type In struct {
	rest string
	bad  bool
}

// Read is an In over b.
func Read(b []byte) *In {
	return &In{rest: string(b)}
}

// Small reads what Out.Small has put: 0 to 65,535.
func (i *In) Small() int {
	return int(number(i.take(smallWide)))
}

// Long reads what Out.Long has put.
func (i *In) Long() int64 {
	return int64(number(i.take(longWide)))
}

// Text reads what Out.Text has put.
func (i *In) Text() string {
	return i.take(i.Small())
}

// Truth reads what Out.Truth has put; a byte that is neither 1 nor 0 makes it Bad.
func (i *In) Truth() bool {
	n := number(i.take(truthWide))
	if n > 1 {
		i.spoil()
	}
	return n == 1
}

// Left is how many bytes are left; 0, if it is Bad.
func (i *In) Left() int {
	if i == nil {
		return 0
	}
	return len(i.rest)
}

// Bad: something was asked for that was not there; nothing can be read any more.
func (i *In) Bad() bool {
	return i == nil || i.bad
}

// End: all was read, and all was there.
func (i *In) End() bool {
	return !i.Bad() && i.Left() == 0
}

// take is the next n bytes; "" and Bad, where fewer are left.
func (i *In) take(n int) string {
	if n > i.Left() {
		i.spoil()
	}
	if i.Bad() {
		return ""
	}
	s := i.rest[:n]
	i.rest = i.rest[n:]
	return s
}

// spoil drops the rest, too: so nothing can be read behind it.
func (i *In) spoil() {
	if i != nil {
		*i = In{bad: true}
	}
}

// number is what the bytes of s say, the lowest one first; of "" 0.
func number(s string) uint64 {
	var n uint64
	for k := range len(s) {
		n |= uint64(s[k]) << (8 * k)
	}
	return n
}
