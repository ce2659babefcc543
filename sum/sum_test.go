package sum

import (
	"bytes"
	"hash/crc32"
	"math/bits"
	"slices"
	"strings"
	"testing"
)

// straight is the polynomial as the chapter writes it: the highest power first.
const straight uint32 = 0x1EDC6F41

// dice throws numbers.
type dice uint64

func (d *dice) word() uint32 {
	*d = *d*6364136223846793005 + 1442695040888963407
	return uint32(*d >> 32)
}

func (d *dice) row(n int) []byte {
	b := make([]byte, n)
	for k := range b {
		b[k] = byte(d.word())
	}
	return b
}

// turnedStep divides by the polynomial as it is written, on words whose bits are turned round: another way to what Bits says.
func turnedStep(s uint32, x byte) uint32 {
	t := bits.Reverse32(s) ^ bits.Reverse32(uint32(x))
	for range 8 {
		high := t >> 31
		t = t<<1 ^ high*straight
	}
	return bits.Reverse32(t)
}

// sumsWithin are sums to step from: none, all ones, every single bit, every lowest byte, and thrown ones.
func sumsWithin() []uint32 {
	all := []uint32{0, 0xffffffff, 0x80000000, 0x7fffffff, 0x82f63b78, 0x1edc6f41}
	for k := range 32 {
		all = append(all, 1<<k, ^uint32(1<<k))
	}
	for k := range uint32(256) {
		all = append(all, k, 0xdeadbe00|k)
	}
	d := dice(5)
	for range 200 {
		all = append(all, d.word())
	}
	return all
}

func rising(n int) []byte {
	b := make([]byte, n)
	for k := range b {
		b[k] = byte(k)
	}
	return b
}

func falling(n int) []byte {
	b := rising(n)
	slices.Reverse(b)
	return b
}

func TestOfKnownOnes(t *testing.T) {
	for _, c := range []struct {
		name string
		b    []byte
		want uint32
	}{
		{"nil", nil, 0},
		{"empty", []byte{}, 0},
		{"empty, with spare room", []byte("abc")[:0], 0},
		{"123456789", []byte("123456789"), 0xe3069283},
		{"a", []byte("a"), 0xc1d04330},
		{"a zero", []byte{0}, 0x527d5351},
		{"a byte of ones", []byte{0xff}, 0xff000000},
		{"32 zeros", make([]byte, 32), 0x8a9136aa},
		{"32 bytes of ones", bytes.Repeat([]byte{0xff}, 32), 0x62a8ab43},
		{"32 rising", rising(32), 0x46dd794e},
		{"32 falling", falling(32), 0x113fdb5c},
	} {
		if got := Of(c.b); got != c.want {
			t.Errorf("P2.1: Of, %s: %08X, want %08X", c.name, got, c.want)
		}
		if got := On(0, c.b); got != c.want {
			t.Errorf("P2.1: On nothing, %s: %08X, want %08X", c.name, got, c.want)
		}
	}
}

func TestOfEveryLength(t *testing.T) {
	table := crc32.MakeTable(crc32.Castagnoli)
	d := dice(7)
	lengths := []int{4095, 4096, 4097, 65535, 65536, 65537, 1<<20 + 1}
	for n := range 600 {
		lengths = append(lengths, n)
	}
	for _, n := range lengths {
		b := d.row(n)
		if got, want := Of(b), crc32.Checksum(b, table); got != want {
			t.Errorf("P2.1: Of %d bytes: %08X, want %08X", n, got, want)
		}
	}
}

// Zeros in front and behind count, too: that is what the ones at the beginning are for.
func TestOfTellsZerosApart(t *testing.T) {
	seen := map[uint32]string{}
	for n := range 40 {
		for _, s := range []string{strings.Repeat("\x00", n) + "x", "y" + strings.Repeat("\x00", n)} {
			k := Of([]byte(s))
			if was, ok := seen[k]; ok {
				t.Errorf("P2.1: %x and %x have one sum", was, s)
			}
			seen[k] = s
		}
	}
}

func TestOnCutInTwo(t *testing.T) {
	d := dice(11)
	rows := [][]byte{nil, []byte("1"), []byte("123456789"), make([]byte, 40), bytes.Repeat([]byte{0xff}, 40)}
	for n := range 70 {
		rows = append(rows, d.row(n))
	}
	for _, b := range rows {
		want := Of(b)
		for k := range len(b) + 1 {
			if got := On(Of(b[:k]), b[k:]); got != want {
				t.Errorf("P2.1: On, %x cut at %d: %08X, want %08X", b, k, got, want)
			}
		}
	}
}

func TestOnCutInMany(t *testing.T) {
	d := dice(13)
	for range 200 {
		b := d.row(int(d.word() % 300))
		var s uint32
		for rest := b; len(rest) > 0; {
			k := int(d.word()) % (len(rest) + 1)
			s = On(s, rest[:k])
			rest = rest[k:]
		}
		if want := Of(b); s != want {
			t.Errorf("P2.1: On, %x in many parts: %08X, want %08X", b, s, want)
		}
	}
}

// Any number may be handed in as a sum, those too that no bytes of the test have.
func TestOnAnySum(t *testing.T) {
	table := crc32.MakeTable(crc32.Castagnoli)
	d := dice(17)
	for _, s := range sumsWithin() {
		for _, none := range [][]byte{nil, {}} {
			if got := On(s, none); got != s {
				t.Errorf("P2.1: On %08X, nothing: %08X", s, got)
			}
		}
		b := d.row(int(1 + d.word()%20))
		if got, want := On(s, b), crc32.Update(s, table, b); got != want {
			t.Errorf("P2.1: On %08X, %x: %08X, want %08X", s, b, got, want)
		}
	}
}

func TestBitsKnownOnes(t *testing.T) {
	for _, c := range []struct {
		s    uint32
		x    byte
		want uint32
	}{
		{0, 0, 0},
		{1, 1, 0},
		{0xff, 0xff, 0},
		{0, 0x80, 0x82f63b78},
		{0x80, 0, 0x82f63b78},
		{0x100, 0, 1},
		{0, 1, 0xf26b8303},
		{0xffffffff, 0xff, 0x00ffffff},
		{0xffffffff, 0, ^uint32(0x527d5351)},
	} {
		if got := Bits(c.s, c.x); got != c.want {
			t.Errorf("P2.1: Bits(%08X, %02X): %08X, want %08X", c.s, c.x, got, c.want)
		}
	}
}

func TestBitsOfEveryByte(t *testing.T) {
	table := crc32.MakeTable(crc32.Castagnoli)
	for _, s := range sumsWithin() {
		for n := range 256 {
			x := byte(n)
			got := Bits(s, x)
			if want := turnedStep(s, x); got != want {
				t.Fatalf("P2.1: Bits(%08X, %02X): %08X, want %08X", s, x, got, want)
			}
			if want := table[byte(s)^x] ^ s>>8; got != want {
				t.Fatalf("P2.1: Bits(%08X, %02X): %08X, want %08X by the table", s, x, got, want)
			}
		}
	}
}

func TestOfIsMadeOfBits(t *testing.T) {
	d := dice(19)
	for n := range 200 {
		b := d.row(n)
		s := uint32(0xffffffff)
		for k, x := range b {
			s = Bits(s, x)
			if got := Of(b[:k+1]); got != ^s {
				t.Errorf("P2.1: Of %x: %08X, by Bits %08X", b[:k+1], got, ^s)
			}
		}
	}
}

func TestListsStayAsTheyAre(t *testing.T) {
	long := []byte("123456789-----")
	one := Of(long[:9])
	On(one, long[:9])
	if string(long) != "123456789-----" {
		t.Errorf("P0.3: %q: the list that was handed in, or its spare room, was changed", long)
	}
	long[0] = 'x'
	if Of(long[:9]) == one {
		t.Error("P0.5: the sum of other bytes is an earlier answer")
	}
	long[0] = '1'
	if got := Of(long[:9]); got != one {
		t.Errorf("P0.5: %08X, and %08X of the same bytes", one, got)
	}
}

func FuzzParts(f *testing.F) {
	f.Add([]byte("12345"), []byte("6789"))
	f.Add([]byte{}, []byte{0})
	f.Fuzz(func(t *testing.T, a, b []byte) {
		want := crc32.Checksum(slices.Concat(a, b), crc32.MakeTable(crc32.Castagnoli))
		if got := On(Of(a), b); got != want {
			t.Errorf("P2.1: %x, %x: %08X, want %08X", a, b, got, want)
		}
	})
}
