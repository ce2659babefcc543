package kind

import (
	"fmt"
	"math"
	"strings"
	"testing"

	"postillion/api"
)

const base = int64(api.Base)

// farInts are numbers that are no brokers, no Kinds and no counts of anything.
var farInts = []int{math.MinInt, math.MinInt + 1, math.MinInt32, -1 << 32, -9, -2, -1, 11, 256, 1<<32 + 1, 1<<32 + 8, math.MaxInt32, math.MaxInt - 1, math.MaxInt}

// far are numbers that are no ids.
var far = []int64{math.MinInt64, math.MinInt64 + 1, -9 * base, -8*base - 1, -base - 1, -base, 1 - base, -2, -1, 0, 1, 2, base - 1, base, 2 * base, 8 * base, 9 * base, 9*base + 1, 10*base - 1, 256*base + 1, math.MaxInt64 - base + 2, math.MaxInt64 - 1, math.MaxInt64}

func wantQueue(t *testing.T, s string, may bool) {
	t.Helper()
	if Queue(s) != may {
		t.Errorf("P8.1: Queue(%q) %v, want %v", s, !may, may)
	}
	if Put(api.Put{Queue: s}) != may || Put(api.Put{Queue: s, Body: "\x00 x"}) != may {
		t.Errorf("P8.1: Put with Queue %q, want %v", s, may)
	}
}

func TestQueue(t *testing.T) {
	for _, s := range []string{"a", "z", "m", "az", "abcdefg", "abcdefgh", "zzzzzzzz"} {
		wantQueue(t, s, true)
	}
	for _, s := range []string{"", "abcdefghi", strings.Repeat("q", 256), strings.Repeat("q", 1<<16+1), "A", "Abc", "abcdefgH", "a1", "1", "a b", " a", "a ", "a\n", "a-b", "a_b", "a/", "é", "aé", "éa", "ａ", "а", "ﬀ", "ſ", "\xff", "a\x80", "\x80", "a\xc3", "a\x00", "\x00"} {
		wantQueue(t, s, false)
	}
}

// Each byte at each place of each length.
func TestQueueBytes(t *testing.T) {
	for n := 1; n <= 10; n++ {
		for place := range n {
			for b := range 256 {
				s := []byte(strings.Repeat("k", n))
				s[place] = byte(b)
				wantQueue(t, string(s), n <= 8 && strings.Contains("abcdefghijklmnopqrstuvwxyz", string(s[place:place+1])))
			}
		}
	}
}

func TestBody(t *testing.T) {
	for b := range 256 {
		one := string([]byte{byte(b)})
		for _, n := range []int{0, 1, 2, 59, 60, 61, 62, 120, 256, 316, 1 << 16, 1<<16 + 60} {
			s, may := strings.Repeat(one, n), n <= 60
			if Body(s) != may {
				t.Errorf("P8.1: Body of %d times %q %v", n, one, !may)
			}
			if Put(api.Put{Queue: "q", Body: s}) != may {
				t.Errorf("P8.1: Put with a Body of %d times %q %v", n, one, !may)
			}
			if Put(api.Put{Queue: "", Body: s}) || Put(api.Put{Queue: "Q", Body: s}) {
				t.Errorf("P8.1: Put with no Queue and a Body of %d times %q", n, one)
			}
		}
	}
	// Bytes count, not letters.
	if !Body(strings.Repeat("é", 30)) || Body(strings.Repeat("é", 31)) {
		t.Error("P8.1: Body of letters of two bytes")
	}
}

func TestBroker(t *testing.T) {
	for n := 1; n <= 8; n++ {
		if !Broker(n) {
			t.Errorf("P8.1: Broker(%d) false", n)
		}
	}
	for _, n := range append([]int{-8, 0, 9, 10, 1 << 32}, farInts...) {
		if Broker(n) {
			t.Errorf("P8.1: Broker(%d) true", n)
		}
	}
}

func TestMake(t *testing.T) {
	numbers := []int64{1, 2, 5, 1 << 31, 1<<31 - 1, base - 2, base - 1}
	none := []int64{math.MinInt64, math.MinInt64 + 1, -base - 1, -base, 1 - base, -1, 0, base, base + 1, 2 * base, 2*base + 1, math.MaxInt64 - 1, math.MaxInt64}
	for broker := 1; broker <= 8; broker++ {
		for _, n := range numbers {
			// Laid out by bits, as the program does not.
			if got, want := Make(broker, n), int64(broker)<<32|n; got != want {
				t.Errorf("P8.1: Make(%d, %d) %d, want %d", broker, n, got, want)
			}
		}
		for _, n := range none {
			if got := Make(broker, n); got != 0 {
				t.Errorf("P8.1: Make(%d, %d) %d, want 0", broker, n, got)
			}
		}
	}
	for _, broker := range append([]int{0, 9, 10}, farInts...) {
		for _, n := range append(numbers, none...) {
			if got := Make(broker, n); got != 0 {
				t.Errorf("P8.1: Make(%d, %d) %d of no broker", broker, n, got)
			}
		}
	}
}

func wantHome(t *testing.T, id int64, home int) {
	t.Helper()
	if got := Home(id); got != home {
		t.Errorf("P8.1: Home(%d) %d, want %d", id, got, home)
	}
	if Tid(id) != (home != 0) {
		t.Errorf("P8.1: Tid(%d) %v", id, Tid(id))
	}
}

func TestHome(t *testing.T) {
	for broker := 1; broker <= 8; broker++ {
		for _, n := range []int64{1, 2, 3, 1 << 16, 1<<31 - 1, 1 << 31, base - 3, base - 2, base - 1} {
			wantHome(t, Make(broker, n), broker)
			wantHome(t, -Make(broker, n), 0)
		}
		first, last := int64(broker)*base, int64(broker+1)*base
		wantHome(t, first-1, broker-1)
		wantHome(t, first, 0)
		wantHome(t, first+1, broker)
		wantHome(t, last-1, broker)
		wantHome(t, last, 0)
	}
	for _, id := range far {
		wantHome(t, id, 0)
	}
}

// What Home tells is that Make makes it of that broker, and of no other.
func TestHomeIsOfMake(t *testing.T) {
	d := dice(8)
	for range 200000 {
		id := d.id()
		made := 0
		for broker := 1; broker <= 8; broker++ {
			if n := id - int64(broker)*base; n > 0 && n < base {
				if Make(broker, n) != id {
					t.Fatalf("P8.1: Make(%d, %d) %d, want %d", broker, n, Make(broker, n), id)
				}
				made = broker
			}
		}
		wantHome(t, id, made)
	}
}

// dice throws numbers that look as if they came by chance; the same ones each time.
type dice uint64

func (d *dice) throw(sides int) int {
	*d = *d*6364136223846793005 + 1442695040888963407
	return int(uint64(*d) >> 33 % uint64(sides))
}

// id is mostly one, or next to one.
func (d *dice) id() int64 {
	if d.throw(8) == 0 {
		return far[d.throw(len(far))]
	}
	return int64(d.throw(11)-1)*base + int64(d.throw(5)-2)
}

// tid is an id.
func (d *dice) tid() int64 { return int64(1+d.throw(8))*base + 1 + int64(d.throw(1<<31)) }

// tell is how what was asked about is written in a message of a test.
func tell(what any) string { return fmt.Sprintf("%#v", what) }
