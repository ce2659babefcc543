package byt

import (
	"math"
	"math/bits"
	"strings"
	"testing"
)

// put is the bytes that one put lays down.
func put(f func(o *Out)) string {
	var o Out
	f(&o)
	return string(o.B)
}

// wantSpoilt checks that i is Bad and that every later answer is zero.
func wantSpoilt(t *testing.T, i *In) {
	t.Helper()
	for range 2 {
		if !i.Bad() || i.End() || i.Left() != 0 {
			t.Errorf("P1.2: Bad %v, End %v, Left %d; want true, false, 0", i.Bad(), i.End(), i.Left())
		}
		if n := i.Small(); n != 0 {
			t.Errorf("P1.2: Small %d of a Bad one", n)
		}
		if n := i.Long(); n != 0 {
			t.Errorf("P1.2: Long %d of a Bad one", n)
		}
		if s := i.Text(); s != "" {
			t.Errorf("P1.2: Text %q of a Bad one", s)
		}
		if i.Truth() {
			t.Error("P1.2: Truth of a Bad one")
		}
	}
}

func TestSmall(t *testing.T) {
	for _, c := range []struct {
		n    int
		want string
		read int
	}{
		{0, "\x00\x00", 0},
		{1, "\x01\x00", 1},
		{255, "\xff\x00", 255},
		{256, "\x00\x01", 256},
		{0x1234, "\x34\x12", 0x1234},
		{65535, "\xff\xff", 65535},
		{65536, "\x00\x00", 0},
		{65537, "\x01\x00", 1},
		{-1, "\xff\xff", 65535},
		{-2, "\xfe\xff", 65534},
		{-65536, "\x00\x00", 0},
		{math.MaxInt, "\xff\xff", 65535},
		{math.MinInt, "\x00\x00", 0},
		{math.MinInt + 0x1234, "\x34\x12", 0x1234},
	} {
		got := put(func(o *Out) { o.Small(c.n) })
		if got != c.want {
			t.Errorf("P1.1: Small(%d): %x, want %x", c.n, got, c.want)
		}
		i := Read([]byte(c.want))
		if n := i.Small(); n != c.read || i.Bad() || !i.End() {
			t.Errorf("P1.2: Small of %x: %d, want %d", c.want, n, c.read)
		}
	}
}

func TestLong(t *testing.T) {
	for _, c := range []struct {
		n    int64
		want string
	}{
		{0, "\x00\x00\x00\x00\x00\x00\x00\x00"},
		{1, "\x01\x00\x00\x00\x00\x00\x00\x00"},
		{-1, "\xff\xff\xff\xff\xff\xff\xff\xff"},
		{0x0102030405060708, "\x08\x07\x06\x05\x04\x03\x02\x01"},
		{math.MaxInt64, "\xff\xff\xff\xff\xff\xff\xff\x7f"},
		{math.MinInt64, "\x00\x00\x00\x00\x00\x00\x00\x80"},
	} {
		got := put(func(o *Out) { o.Long(c.n) })
		if got != c.want {
			t.Errorf("P1.1: Long(%d): %x, want %x", c.n, got, c.want)
		}
		i := Read([]byte(c.want))
		if n := i.Long(); n != c.n || i.Bad() || !i.End() {
			t.Errorf("P1.2: Long of %x: %d, want %d", c.want, n, c.n)
		}
	}
}

func TestText(t *testing.T) {
	all := make([]byte, 256)
	for k := range all {
		all[k] = byte(k)
	}
	for _, c := range []struct {
		name, s, head, read string
	}{
		{"empty", "", "\x00\x00", ""},
		{"short", "abc", "\x03\x00", "abc"},
		{"not UTF-8", "\xff\x00\xc3", "\x03\x00", "\xff\x00\xc3"},
		{"all bytes", string(all), "\x00\x01", string(all)},
		{"longest", strings.Repeat("y", 65535), "\xff\xff", strings.Repeat("y", 65535)},
		{"one too long", strings.Repeat("y", 65536), "\x00\x00", ""},
		{"longer", "abc" + strings.Repeat("y", 65536), "\x03\x00", "abc"},
		{"twice as long", "abcd" + strings.Repeat("y", 2*65536), "\x04\x00", "abcd"},
	} {
		got := put(func(o *Out) { o.Text(c.s) })
		if got != c.head+c.read {
			t.Errorf("P1.1: Text, %s: %d bytes, want %d", c.name, len(got), len(c.head+c.read))
		}
		i := Read([]byte(c.head + c.read))
		if s := i.Text(); s != c.read || i.Bad() || !i.End() {
			t.Errorf("P1.2: Text, %s: %d bytes, want %d", c.name, len(s), len(c.read))
		}
	}
}

func TestTruth(t *testing.T) {
	for x, want := range map[bool]string{true: "\x01", false: "\x00"} {
		if got := put(func(o *Out) { o.Truth(x) }); got != want {
			t.Errorf("P1.1: Truth(%v): %x, want %x", x, got, want)
		}
		i := Read([]byte(want))
		if got := i.Truth(); got != x || i.Bad() || !i.End() {
			t.Errorf("P1.2: Truth of %x: %v, want %v", want, got, x)
		}
	}
	for b := 2; b <= 255; b++ {
		i := Read([]byte{byte(b), 1, 1, 1, 1, 1, 1, 1, 1, 1})
		if i.Truth() {
			t.Errorf("P1.2: the byte %d is true", b)
		}
		wantSpoilt(t, i)
	}
}

func TestPutsStandBehindB(t *testing.T) {
	o := Out{B: []byte("ab")}
	o.Small(1)
	o.Truth(true)
	o.Text("x")
	o.Long(-1)
	want := "ab\x01\x00\x01\x01\x00x\xff\xff\xff\xff\xff\xff\xff\xff"
	if string(o.B) != want {
		t.Errorf("P1.1: %x, want %x", o.B, want)
	}
	o.B = nil
	o.Truth(true)
	if string(o.B) != "\x01" {
		t.Errorf("P1.1: %x behind an emptied B", o.B)
	}
}

func TestLeftAndEnd(t *testing.T) {
	o := new(Out)
	o.Small(7)
	o.Long(8)
	o.Text("nine")
	o.Truth(true)
	i := Read(o.B)
	want := func(left int) {
		t.Helper()
		if i.Left() != left || i.Bad() || i.End() != (left == 0) {
			t.Errorf("P1.2: Left %d, Bad %v, End %v; want %d", i.Left(), i.Bad(), i.End(), left)
		}
	}
	want(17)
	if n := i.Small(); n != 7 {
		t.Errorf("P1.2: Small %d", n)
	}
	want(15)
	if n := i.Long(); n != 8 {
		t.Errorf("P1.2: Long %d", n)
	}
	want(7)
	if s := i.Text(); s != "nine" {
		t.Errorf("P1.2: Text %q", s)
	}
	want(1)
	if !i.Truth() {
		t.Error("P1.2: Truth")
	}
	want(0)
}

// Bytes that are there are not nought, so that whatever is read of too few of them is seen.
func TestTooFewBytesSpoil(t *testing.T) {
	for _, c := range []struct {
		name string
		have string
		zero func(i *In) bool
	}{
		{"Small", "\x09", func(i *In) bool { return i.Small() == 0 }},
		{"Long", "\x09\x09\x09\x09\x09\x09\x09", func(i *In) bool { return i.Long() == 0 }},
		{"Text, its length", "\x09", func(i *In) bool { return i.Text() == "" }},
		{"Text, none of it", "\x01\x00", func(i *In) bool { return i.Text() == "" }},
		{"Text, all but one", "\x09\x0012345678", func(i *In) bool { return i.Text() == "" }},
		{"Text, the longest", "\xff\xff12345678", func(i *In) bool { return i.Text() == "" }},
		{"Truth", "", func(i *In) bool { return !i.Truth() }},
	} {
		for n := range len(c.have) + 1 {
			i := Read([]byte(c.have[:n]))
			if !c.zero(i) {
				t.Errorf("P1.2: %s of %x: not zero", c.name, c.have[:n])
			}
			wantSpoilt(t, i)
		}
	}
}

// A later one is zero even where the bytes that were left would have been enough for it.
func TestBadStays(t *testing.T) {
	i := Read([]byte("\x01\x01\x01\x01\x01\x01\x01"))
	if n := i.Long(); n != 0 {
		t.Errorf("P1.2: Long %d of seven bytes", n)
	}
	wantSpoilt(t, i)
	i = Read([]byte("\x05\x01\x01\x01\x01"))
	if s := i.Text(); s != "" {
		t.Errorf("P1.2: Text %q, of which some is missing", s)
	}
	wantSpoilt(t, i)
}

func TestNothingToRead(t *testing.T) {
	for name, i := range map[string]*In{"nil": Read(nil), "empty": Read([]byte{}), "zero In": new(In)} {
		if i == nil || i.Bad() || !i.End() || i.Left() != 0 {
			t.Errorf("P0.4, P1.2: Read of %s", name)
		}
	}
}

func TestNil(t *testing.T) {
	var i *In
	wantSpoilt(t, i)
	var o *Out
	o.Small(1)
	o.Long(1)
	o.Text("abc")
	o.Truth(true)
}

func TestListsAreNotShared(t *testing.T) {
	b := []byte("\x03\x00abc\x01--")
	i := Read(b[:6])
	b[2], b[5], b[6] = 'x', 9, 'y'
	if s := i.Text(); s != "abc" || !i.Truth() || !i.End() {
		t.Errorf("P0.3: %q: the list that was handed in was kept", s)
	}
	if string(b) != "\x03\x00xbc\x09y-" {
		t.Errorf("P0.3: %x: the list that was handed in was changed", b)
	}

	long := []byte("abc---------------------------------")
	o := Out{B: long[:3]}
	o.Small(1)
	o.Long(1)
	o.Text("xyz")
	o.Truth(true)
	if string(long[3:]) != "---------------------------------" {
		t.Errorf("P0.3: %x: spare room was changed", long)
	}

	var one Out
	one.Small(1)
	two := one
	one.Small(2)
	two.Small(3)
	if string(one.B) != "\x01\x00\x02\x00" || string(two.B) != "\x01\x00\x03\x00" {
		t.Errorf("P0.3: %x, %x: two Outs share room", one.B, two.B)
	}
}

func TestReadersAreApart(t *testing.T) {
	b := []byte{1, 0}
	one, two := Read(b), Read(b)
	one.Long()
	if n := two.Small(); n != 1 || !two.End() || !one.Bad() {
		t.Errorf("P0.5: one In changes another: %d", n)
	}
}

func TestIntIs64BitsWide(t *testing.T) {
	if bits.UintSize != 64 {
		t.Errorf("P0.6: %d bits", bits.UintSize)
	}
}

func FuzzReadEnds(f *testing.F) {
	f.Add([]byte("\x03\x00abc\x01"), []byte("td"))
	f.Add([]byte("\xff\xff"), []byte("tsd"))
	f.Fuzz(func(t *testing.T, b, asks []byte) {
		i := Read(b)
		for _, ask := range asks {
			was := i.Left()
			switch ask % 4 {
			case 0:
				i.Small()
			case 1:
				i.Long()
			case 2:
				i.Text()
			default:
				i.Truth()
			}
			if i.Left() > was || (i.Bad() && i.Left() != 0) || i.End() != (!i.Bad() && i.Left() == 0) {
				t.Fatalf("P1.2: Left %d behind %d, Bad %v, End %v", i.Left(), was, i.Bad(), i.End())
			}
		}
	})
}
