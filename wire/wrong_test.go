package wire

import (
	"math"
	"strings"
	"testing"

	"postillion/api"
)

// noTids are numbers that are no ids.
var noTids = []int64{math.MinInt64, -9 * base, -base - 1, -base, -1, 0, 1, base - 1, base, 2 * base, 8 * base, 9 * base, 9*base + 1, 1<<48 + tid, math.MaxInt64}

// noKinds are numbers that are no Kinds; of some of them the lowest eight, sixteen or 32 bits are one.
var noKinds = []int{math.MinInt, -65535, -1, 0, 6, 7, 9, 10, 255, 256, 257, 259, 65536, 65537, 65541, 1<<32 + 1, math.MaxInt}

// noBrokers are numbers that are none, some of them likewise.
var noBrokers = []int{math.MinInt, -65535, -1, 0, 9, 10, 255, 256, 257, 264, 65536, 65537, 65544, 1<<32 + 1, math.MaxInt}

// noCounts are no N of a PPrep; of other Kinds none is but 0.
var noCounts = []int{math.MinInt, -65535, -1, 0, 11, 12, 255, 256, 257, 266, 65536, 65537, 65546, 1<<32 + 1, math.MaxInt}

// fits tells whether n is what a Small puts: of another one its bytes are those of another number.
func fits(n int) bool { return n >= 0 && n < 1<<16 }

// wantNone asks that p has no bytes, and that those that it would have, with their right sum, are no packet's.
func wantNone(t *testing.T, name string, p api.Packet) {
	t.Helper()
	wantNil(t, p)
	if fits(p.Kind) && fits(p.From) && fits(p.To) && fits(p.N) {
		wantForm(t, name, plainBytes(p))
	}
}

func TestWrongHeads(t *testing.T) {
	wantNone(t, "the zero packet", api.Packet{})
	for _, x := range book() {
		for _, kind := range noKinds {
			p := x.p
			p.Kind = kind
			wantNone(t, x.name+", of no Kind", p)
			p.N, p.Yes = 0, false
			wantNone(t, x.name+", of no Kind, and with nothing else", p)
		}
		for _, none := range noBrokers {
			p := x.p
			p.From = none
			wantNone(t, x.name+", from no broker", p)
			p.To = none
			wantNone(t, x.name+", from no broker to none", p)
			p.From = x.p.From
			wantNone(t, x.name+", to no broker", p)
		}
		for _, id := range noTids {
			p := x.p
			p.Tid = id
			wantNone(t, x.name+", of no Tid", p)
		}
	}
}

func TestWrongFields(t *testing.T) {
	for _, x := range book() {
		for _, n := range noCounts {
			p := x.p
			p.N = n
			if p.Kind == api.PPrep || n != 0 {
				wantNone(t, x.name+", another N", p)
			}
		}
		if x.p.Kind != api.PPrep {
			for n := 1; n <= 10; n++ {
				p := x.p
				p.N = n
				wantNone(t, x.name+", with an N", p)
			}
		}
		if x.p.Kind != api.PVote && x.p.Kind != api.PSay {
			p := x.p
			p.Yes = true
			wantNone(t, x.name+", Yes", p)
		}
	}
}

// Each Kind that two bytes can say, with its right sum.
func TestEachKind(t *testing.T) {
	for kind := range 1 << 16 {
		p := api.Packet{Kind: kind, From: 2, To: 7, Tid: tid}
		if wantPlain(t, plainBytes(p)) != (kind >= 2 && kind <= 5) {
			t.Errorf("the test's own Kind %d", kind)
		}
		p.N = 3
		if wantPlain(t, plainBytes(p)) != (kind == 1) {
			t.Errorf("the test's own Kind %d, with an N", kind)
		}
	}
}

func TestTruth(t *testing.T) {
	for _, x := range book() {
		for b := 2; b <= 255; b++ {
			wantForm(t, x.name+", a truth that is none", sealed(x.bytes[:16]+string([]byte{byte(b)})))
		}
	}
}

// Bytes that are too few or too many, also where their last four are the sum of the others.
func TestLengths(t *testing.T) {
	wantForm(t, "no bytes", "")
	if p, err := Decode(nil); err != api.ErrForm || p != (api.Packet{}) {
		t.Errorf("P0.4: Decode(nil) %s, %d", tell(p), err)
	}
	wantForm(t, "the sum of nothing", sealed(""))
	for _, x := range book() {
		for n := range x.bytes {
			wantForm(t, x.name+", a front", x.bytes[:n])
			wantForm(t, x.name+", an end", x.bytes[n+1:])
		}
		body := x.bytes[:wide-4]
		for n := range body {
			wantForm(t, x.name+", a front with its sum", sealed(body[:n]))
			wantForm(t, x.name+", an end with its sum", sealed(body[n+1:]))
		}
		for b := range 256 {
			one := string([]byte{byte(b)})
			wantForm(t, x.name+", a byte more", x.bytes+one)
			wantForm(t, x.name+", a byte more, ahead", one+x.bytes)
			wantForm(t, x.name+", a byte more, and the sum of all", sealed(body+one))
			wantForm(t, x.name+", a byte more, ahead, and the sum of all", sealed(one+body))
			wantForm(t, x.name+", a byte between it and its sum", body+one+x.bytes[wide-4:])
		}
		wantForm(t, x.name+", twice", x.bytes+x.bytes)
		wantForm(t, x.name+", the sum of all behind it", sealed(x.bytes))
	}
}

// A byte more, and where a packet's sum stands the sum of all but the last four: right, as long as nobody asks whether they end there.
func TestSumOfMore(t *testing.T) {
	tried := 0
	for p := range packets() {
		body := plainBody(p)
		for b := range 256 {
			more := sealed(body + string([]byte{byte(b)}))
			if s := more[len(more)-4:]; s[0] == byte(b) {
				tried++
				wantForm(t, "a byte more, and the sum of all but the last four", body+s+"x")
			}
		}
	}
	if tried == 0 {
		t.Error("none was tried")
	}
}

// One byte of a packet turned to any other one: it is none.
func TestTurned(t *testing.T) {
	for _, x := range book() {
		for place := range x.bytes {
			b := []byte(x.bytes)
			for turn := 1; turn <= 255; turn++ {
				b[place] = x.bytes[place] ^ byte(turn)
				wantForm(t, x.name+", a byte turned", string(b))
			}
		}
	}
}

// The bytes of one packet with the sum of another, and a sum that is made otherwise.
func TestWrongSums(t *testing.T) {
	all := book()
	for _, x := range all {
		body, s := x.bytes[:wide-4], x.bytes[wide-4:]
		for _, y := range all {
			if x.name != y.name {
				wantForm(t, x.name+", with the sum of another", body+y.bytes[wide-4:])
			}
		}
		wantForm(t, x.name+", its sum's highest byte first", body+string([]byte{s[3], s[2], s[1], s[0]}))
		wantForm(t, x.name+", its sum's halves changed", body+s[2:]+s[:2])
		wantForm(t, x.name+", its sum not turned", body+string([]byte{^s[0], ^s[1], ^s[2], ^s[3]}))
		wantForm(t, x.name+", its sum ahead", s+body)
		wantForm(t, x.name+", no sum", body+"\x00\x00\x00\x00")
		wantForm(t, x.name+", no sum", body+"\xff\xff\xff\xff")
	}
}

func TestLong(t *testing.T) {
	for _, b := range []string{"\x00", "\x01", "\x05", "\xff"} {
		for n := range 100 {
			wantForm(t, "alike bytes", strings.Repeat(b, n))
			wantForm(t, "alike bytes and their sum", sealed(strings.Repeat(b, n)))
		}
		many := strings.Repeat(b, 1<<20)
		wantForm(t, "many bytes", many)
		wantForm(t, "many bytes and their sum", sealed(many))
		for _, x := range book() {
			wantForm(t, x.name+", and many bytes", x.bytes+many)
		}
	}
}
