package kind

import (
	"math"
	"testing"

	"postillion/api"
)

var packetKinds = []int{api.PPrep, api.PVote, api.PSay, api.PTold, api.PAsk}

// goodPacket is a packet of that Kind that may be.
func goodPacket(kind int) api.Packet {
	p := api.Packet{Kind: kind, From: 2, To: 7, Tid: tid}
	if kind == api.PPrep {
		p.N = 4
	}
	return p
}

func wantPacket(t *testing.T, p api.Packet, may bool) {
	t.Helper()
	for range 2 {
		if Packet(p) != may {
			t.Errorf("P8.1: Packet(%s) %v", tell(p), !may)
		}
	}
}

func TestPacketKinds(t *testing.T) {
	for _, kind := range packetKinds {
		wantPacket(t, goodPacket(kind), true)
	}
	for _, kind := range append([]int{0, 6, 7, 9, 10, 255}, farInts...) {
		for _, like := range packetKinds {
			p := goodPacket(like)
			p.Kind = kind
			wantPacket(t, p, false)
			p.Yes = true
			wantPacket(t, p, false)
		}
	}
	wantPacket(t, api.Packet{}, false)
}

func TestPacketFromTo(t *testing.T) {
	for _, kind := range packetKinds {
		for from := -2; from <= 11; from++ {
			for to := -2; to <= 11; to++ {
				p := goodPacket(kind)
				p.From, p.To = from, to
				wantPacket(t, p, from >= 1 && from <= 8 && to >= 1 && to <= 8)
			}
		}
		for _, none := range noBrokers {
			p := goodPacket(kind)
			p.From = none
			wantPacket(t, p, false)
			p = goodPacket(kind)
			p.To = none
			wantPacket(t, p, false)
		}
	}
}

func TestPacketTid(t *testing.T) {
	for _, kind := range packetKinds {
		p := goodPacket(kind)
		for broker := 1; broker <= 8; broker++ {
			for _, n := range []int64{1, 2, base - 2, base - 1} {
				p.Tid = int64(broker)*base + n
				wantPacket(t, p, true)
			}
			p.Tid = int64(broker) * base
			wantPacket(t, p, false)
		}
		for _, id := range far {
			p.Tid = id
			wantPacket(t, p, false)
		}
	}
}

func TestPacketN(t *testing.T) {
	for _, kind := range packetKinds {
		for _, n := range append([]int{0, 1, 2, 3, 9, 10, 11, 12, 1<<16 + 5}, farInts...) {
			p := goodPacket(kind)
			p.N = n
			if kind == api.PPrep {
				wantPacket(t, p, n >= 1 && n <= 10)
			} else {
				wantPacket(t, p, n == 0)
			}
		}
	}
}

func TestPacketYes(t *testing.T) {
	for _, kind := range packetKinds {
		p := goodPacket(kind)
		p.Yes = true
		wantPacket(t, p, kind == api.PVote || kind == api.PSay)
		p.N++
		wantPacket(t, p, false)
	}
}

// Each field as it may be and as it may not, all together: it may be just where each may.
func TestPacketAllFields(t *testing.T) {
	type number struct {
		n   int
		may bool
	}
	brokers := []number{{1, true}, {8, true}, {0, false}, {9, false}, {math.MinInt, false}}
	tids := []number{{int(base) + 1, true}, {9*int(base) - 1, true}, {0, false}, {int(base), false}}
	for kind := range 8 {
		for _, from := range brokers {
			for _, to := range brokers {
				for _, id := range tids {
					for n := -1; n <= 11; n++ {
						for _, yes := range []bool{false, true} {
							may := kind >= 1 && kind <= 5 && from.may && to.may && id.may
							may = may && (n == 0) == (kind != api.PPrep) && n >= 0 && n <= 10
							may = may && (!yes || kind == api.PVote || kind == api.PSay)
							wantPacket(t, api.Packet{Kind: kind, From: from.n, To: to.n, Tid: int64(id.n), N: n, Yes: yes}, may)
						}
					}
				}
			}
		}
	}
}
