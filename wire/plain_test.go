package wire

import (
	"encoding/binary"
	"hash/crc32"
	"iter"
	"slices"
	"testing"

	"postillion/api"
)

// sealed is those bytes, and their sum by another way than the program's.
func sealed(body string) string {
	s := crc32.Checksum([]byte(body), crc32.MakeTable(crc32.Castagnoli))
	return body + string(binary.LittleEndian.AppendUint32(nil, s))
}

// plainBody is the bytes of p ahead of its sum by another way, whether or not it may be.
func plainBody(p api.Packet) string {
	b := binary.LittleEndian.AppendUint16(nil, uint16(p.Kind))
	b = binary.LittleEndian.AppendUint16(b, uint16(p.From))
	b = binary.LittleEndian.AppendUint16(b, uint16(p.To))
	b = binary.LittleEndian.AppendUint64(b, uint64(p.Tid))
	b = binary.LittleEndian.AppendUint16(b, uint16(p.N))
	return string(append(b, map[bool]byte{true: 1}[p.Yes]))
}

// plainBytes is the bytes of p by another way, whether or not it may be: so that those that no packet has can be tried as well.
func plainBytes(p api.Packet) string { return sealed(plainBody(p)) }

// plainMay says, more plainly than the program, whether p may be.
func plainMay(p api.Packet) bool {
	if p.Kind < 1 || p.Kind > 5 || p.From < 1 || p.From > 8 || p.To < 1 || p.To > 8 {
		return false
	}
	if p.Tid <= base || p.Tid >= 9*base || p.Tid%base == 0 {
		return false
	}
	if p.Kind == 1 {
		return p.N >= 1 && p.N <= 10 && !p.Yes
	}
	return p.N == 0 && (!p.Yes || p.Kind == 2 || p.Kind == 3)
}

// plainRead is the packet that those bytes say, by another way; false: they say none, or one that may not be.
func plainRead(bytes string) (api.Packet, bool) {
	if len(bytes) != wide || sealed(bytes[:wide-4]) != bytes || bytes[16] > 1 {
		return api.Packet{}, false
	}
	b := []byte(bytes)
	small := func(place int) int { return int(binary.LittleEndian.Uint16(b[place:])) }
	p := api.Packet{Kind: small(0), From: small(2), To: small(4), N: small(14), Yes: b[16] == 1}
	p.Tid = int64(binary.LittleEndian.Uint64(b[6:]))
	if !plainMay(p) {
		return api.Packet{}, false
	}
	return p, true
}

// wantPlain asks that Decode of those bytes is what plainRead says; true: they are a packet's.
func wantPlain(t *testing.T, bytes string) bool {
	t.Helper()
	want, is := plainRead(bytes)
	got, err := Decode([]byte(bytes))
	if got != want || is != (err == api.OK) || !is && err != api.ErrForm {
		t.Errorf("P15.1: Decode of %.100x: %s, %d, want %s, %v", bytes, tell(got), err, tell(want), is)
	}
	if is && string(Encode(got)) != bytes {
		t.Errorf("P15.1: Decode of %x is %s, whose bytes are %x", bytes, tell(got), Encode(got))
	}
	return is
}

// packets is each packet of tid that may be.
func packets() iter.Seq[api.Packet] {
	return func(yield func(api.Packet) bool) {
		for at := range 5 * 8 * 8 * 11 * 2 {
			p := api.Packet{Tid: tid, Kind: 1 + at%5, From: 1 + at/5%8, To: 1 + at/40%8, N: at / 320 % 11, Yes: at/3520 == 1}
			if plainMay(p) && !yield(p) {
				return
			}
		}
	}
}

type dice uint64

func (d *dice) throw(sides int) int {
	*d = *d*6364136223846793005 + 1442695040888963407
	return int(uint64(*d) >> 33 % uint64(sides))
}

// id is mostly one.
func (d *dice) id() int64 {
	if d.throw(12) == 0 {
		return noTids[d.throw(len(noTids))]
	}
	return int64(1+d.throw(8))*base + 1 + int64(d.throw(1<<31))
}

// broker is mostly one.
func (d *dice) broker() int {
	if d.throw(20) == 0 {
		return noBrokers[d.throw(len(noBrokers))]
	}
	return 1 + d.throw(8)
}

// thrown is a packet that has what its Kind has, and seldom more.
func (d *dice) thrown() api.Packet {
	p := api.Packet{Kind: 1 + d.throw(5), From: d.broker(), To: d.broker(), Tid: d.id()}
	if d.throw(20) == 0 {
		p.Kind = noKinds[d.throw(len(noKinds))]
	}
	if p.Kind == 1 || d.throw(30) == 0 {
		p.N = d.throw(12)
	}
	if p.Kind == 2 || p.Kind == 3 || d.throw(30) == 0 {
		p.Yes = d.throw(2) == 0
	}
	return p
}

// turned is those bytes, a little worse.
func (d *dice) turned(bytes string) string {
	b := []byte(bytes)
	for range 1 + d.throw(2) {
		at := d.throw(len(b) + 1)
		switch d.throw(4) {
		case 0:
			b = b[:at]
		case 1:
			b = slices.Insert(b, at, byte(d.throw(256)))
		case 2:
			b = slices.Delete(b, at, min(at+1+d.throw(3), len(b)))
		case 3:
			if at < len(b) {
				b[at] ^= 1 << d.throw(8)
			}
		}
	}
	return string(b)
}

// Thrown packets; their bytes, also turned; and those that were turned ahead of the sum, so that it is right again.
func TestStepByStep(t *testing.T) {
	d := dice(15)
	var may, mayNot [6]int
	good, bad := 0, 0
	for range 40000 {
		p := d.thrown()
		bytes := plainBytes(p)
		wantPlain(t, bytes)
		wantPlain(t, d.turned(bytes))
		if wantPlain(t, sealed(d.turned(plainBody(p)))) {
			good++
		} else {
			bad++
		}
		kind := p.Kind
		if kind < 1 || kind > 5 {
			kind = 0
		}
		if plainMay(p) {
			may[kind]++
			wantPacket(t, "a thrown one", p, bytes)
		} else {
			mayNot[kind]++
			wantNil(t, p)
		}
	}
	for kind := 1; kind <= 5; kind++ {
		if may[kind] < 2000 || mayNot[kind] < 500 {
			t.Errorf("of Kind %d only %d that may be and %d that may not were asked about", kind, may[kind], mayNot[kind])
		}
	}
	if mayNot[0] < 1000 || good < 1000 || bad < 10000 {
		t.Errorf("only %d of no Kind, %d turned that are good, %d that are not", mayNot[0], good, bad)
	}
}
