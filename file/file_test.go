package file

import (
	"bytes"
	"errors"
	"fmt"
	"math"
	"slices"
	"strings"
	"testing"

	"postillion/api"
)

// told tells all that may be asked of a disk: each file, its bytes, how many are sure; how much is used.
func told(d *Disk) string {
	var s strings.Builder
	for _, name := range d.Names() {
		b, _ := d.Read(name)
		fmt.Fprintf(&s, "%s=%s/%d ", name, b, d.Sure(name))
	}
	fmt.Fprint(&s, d.Used())
	return s.String()
}

func wantTold(t *testing.T, what string, d *Disk, want string) {
	t.Helper()
	if got := told(d); got != want {
		t.Errorf("%s: %q, want %q", what, got, want)
	}
}

func wantErr(t *testing.T, what string, got, want api.Errno) {
	t.Helper()
	if got != want {
		t.Errorf("%s: error %d, want %d", what, got, want)
	}
}

// must does what has to go well for a test to mean anything.
func must(t *testing.T, errs ...api.Errno) {
	t.Helper()
	for k, err := range errs {
		if err != api.OK {
			t.Fatalf("step %d: error %d", k, err)
		}
	}
}

// badNames are no names, by their length or by one sign in them.
func badNames() []string {
	all := []string{"", "abcdefghijklm", "0123456789012", strings.Repeat("a", 1000), "\u00e4", "abc\u00e4", "\uff41"}
	for n := range 256 {
		x := string([]byte{byte(n)})
		if !strings.Contains("abcdefghijklmnopqrstuvwxyz0123456789", x) {
			all = append(all, x, "a"+x, x+"a", "a"+x+"b", "abcdefghijk"+x, x+"12345678901")
		}
	}
	return all
}

func goodNames() []string {
	all := []string{"ab", "a1", "1a", "00", "log000", "state", "abcdefghijk", "abcdefghijkl", "012345678901", "zzzzzzzzzzzz"}
	for _, x := range "abcdefghijklmnopqrstuvwxyz0123456789" {
		all = append(all, string(x))
	}
	return all
}

func TestGoodNames(t *testing.T) {
	for _, name := range goodNames() {
		d := New(10)
		wantErr(t, "P3.1: Append "+name, d.Append(name, []byte("x")), api.OK)
		wantTold(t, "P3.1: Append "+name, d, name+"=x/0 1")
		wantErr(t, "P3.1: Sync "+name, d.Sync(name), api.OK)
		wantTold(t, "P3.1: Sync "+name, d, name+"=x/1 1")
		wantErr(t, "P3.1: Delete "+name, d.Delete(name), api.OK)
		must(t, d.Append("from", []byte("y")))
		wantErr(t, "P3.1: Rename to "+name, d.Rename("from", name), api.OK)
		wantTold(t, "P3.1: Rename to "+name, d, name+"=y/0 1")
	}
}

func TestBadNames(t *testing.T) {
	for _, name := range badNames() {
		what := fmt.Sprintf("P3.1: %q", name)
		d := New(10)
		must(t, d.Append("a", []byte("x")))
		wantErr(t, what+": Append", d.Append(name, []byte("y")), api.ErrForm)
		wantErr(t, what+": Append of nothing", d.Append(name, nil), api.ErrForm)
		wantErr(t, what+": ErrForm ahead of ErrFull", d.Append(name, make([]byte, 11)), api.ErrForm)
		wantErr(t, what+": Rename to it", d.Rename("a", name), api.ErrForm)
		wantErr(t, what+": ErrForm ahead of ErrNone", d.Rename("none", name), api.ErrForm)
		wantErr(t, what+": Rename to itself", d.Rename(name, name), api.ErrForm)
		wantErr(t, what+": Rename from it", d.Rename(name, "b"), api.ErrNone)
		wantErr(t, what+": Sync", d.Sync(name), api.ErrNone)
		wantErr(t, what+": Delete", d.Delete(name), api.ErrNone)
		wantNotThere(t, what, d, name)
		wantTold(t, what, d, "a=x/0 1")
	}
}

func wantNotThere(t *testing.T, what string, d *Disk, name string) {
	t.Helper()
	if b, is := d.Read(name); len(b) != 0 || is {
		t.Errorf("%s: Read %q, %v of a file that is not there", what, b, is)
	}
	if n := d.Sure(name); n != 0 {
		t.Errorf("%s: Sure %d of a file that is not there", what, n)
	}
	if slices.Contains(d.Names(), name) {
		t.Errorf("%s: Names has it", what)
	}
}

func TestRoom(t *testing.T) {
	for _, c := range []struct{ room, want int }{
		{0, 0}, {-1, 0}, {math.MinInt, 0}, {1, 1}, {2, 2}, {1000, 1000},
		{1<<20 - 1, 1<<20 - 1}, {1 << 20, 1 << 20}, {1<<20 + 1, 1 << 20}, {1 << 40, 1 << 20}, {math.MaxInt, 1 << 20},
	} {
		what := fmt.Sprintf("P3.1: New(%d)", c.room)
		wantErr(t, what+": one byte more", New(c.room).Append("a", make([]byte, c.want+1)), api.ErrFull)
		d := New(c.room)
		wantTold(t, what, d, "0")
		wantErr(t, what+": to its last byte", d.Append("a", make([]byte, c.want)), api.OK)
		if d.Used() != c.want {
			t.Errorf("%s: Used %d, want %d", what, d.Used(), c.want)
		}
		wantErr(t, what+": full, the same file", d.Append("a", []byte("x")), api.ErrFull)
		wantErr(t, what+": full, another file", d.Append("b", []byte("x")), api.ErrFull)
		wantErr(t, what+": full, nothing", d.Append("a", nil), api.OK)
		wantErr(t, what+": full, a file of nothing", d.Append("b", nil), api.OK)
		if got := d.Names(); !slices.Equal(got, []string{"a", "b"}) || d.Used() != c.want {
			t.Errorf("%s: Names %q, Used %d", what, got, d.Used())
		}
	}
}

func TestRoomIsOfAllFiles(t *testing.T) {
	d := New(6)
	must(t, d.Append("a", []byte("12")), d.Append("b", []byte("345")))
	wantErr(t, "P3.1: a third file", d.Append("c", []byte("67")), api.ErrFull)
	wantNotThere(t, "P3.1: what was refused", d, "c")
	wantErr(t, "P3.1: more of a file", d.Append("a", []byte("67")), api.ErrFull)
	wantTold(t, "P3.1: ErrFull does nothing", d, "a=12/0 b=345/0 5")
	must(t, d.Append("c", []byte("6")))
	wantErr(t, "P3.1: full", d.Append("c", []byte("7")), api.ErrFull)
	wantErr(t, "P3.1: full", d.Append("d", []byte("7")), api.ErrFull)
	wantTold(t, "P3.1: full", d, "a=12/0 b=345/0 c=6/0 6")

	must(t, d.Delete("a"))
	wantErr(t, "P3.1: more than a Delete gave back", d.Append("d", []byte("789")), api.ErrFull)
	wantErr(t, "P3.1: what a Delete gave back", d.Append("d", []byte("78")), api.OK)
	must(t, d.Rename("c", "b"))
	wantErr(t, "P3.1: more than a Rename gave back", d.Append("e", []byte("9012")), api.ErrFull)
	wantErr(t, "P3.1: what a Rename gave back", d.Append("e", []byte("901")), api.OK)
	wantTold(t, "P3.1: full anew", d, "b=6/0 d=78/0 e=901/0 6")
	must(t, d.Sync("e"), d.Rename("e", "e"), d.Rename("e", "f"))
	wantErr(t, "P3.1: Sync and Rename give nothing back", d.Append("d", []byte("x")), api.ErrFull)
}

func TestAppend(t *testing.T) {
	d := New(100)
	for _, c := range []struct {
		name, b, want string
	}{
		{"b", "one", "b=one/0 3"},
		{"b", "", "b=one/0 3"},
		{"a", "", "a=/0 b=one/0 3"},
		{"a", "", "a=/0 b=one/0 3"},
		{"b", "two", "a=/0 b=onetwo/0 6"},
		{"a", "x", "a=x/0 b=onetwo/0 7"},
		{"c", "\x00\xff", "a=x/0 b=onetwo/0 c=\x00\xff/0 9"},
	} {
		wantErr(t, "P3.1: Append "+c.name, d.Append(c.name, []byte(c.b)), api.OK)
		wantTold(t, "P3.1: Append "+c.name, d, c.want)
	}
	one, two := New(1), New(1)
	must(t, one.Append("a", nil), two.Append("a", []byte{}))
	for _, d := range []*Disk{one, two} {
		wantTold(t, "P0.4: nothing", d, "a=/0 0")
		if b, is := d.Read("a"); len(b) != 0 || !is {
			t.Errorf("P3.1: Read %q, %v of a file without bytes", b, is)
		}
	}
}

func TestSync(t *testing.T) {
	d := New(100)
	wantErr(t, "P3.1: Sync on an empty disk", d.Sync("a"), api.ErrNone)
	must(t, d.Append("a", []byte("one")), d.Append("b", []byte("x")))
	wantTold(t, "P3.1: not synced", d, "a=one/0 b=x/0 4")
	wantErr(t, "P3.1: Sync", d.Sync("a"), api.OK)
	wantTold(t, "P3.1: Sync of one", d, "a=one/3 b=x/0 4")
	must(t, d.Append("a", []byte("two")))
	wantTold(t, "P3.1: Append behind Sync", d, "a=onetwo/3 b=x/0 7")
	wantErr(t, "P3.1: Sync anew", d.Sync("a"), api.OK)
	wantErr(t, "P3.1: Sync twice", d.Sync("a"), api.OK)
	wantTold(t, "P3.1: Sync twice", d, "a=onetwo/6 b=x/0 7")
	wantErr(t, "P3.1: Sync of none", d.Sync("c"), api.ErrNone)
	wantTold(t, "P3.1: Sync makes no file", d, "a=onetwo/6 b=x/0 7")
	must(t, d.Delete("a"))
	wantErr(t, "P3.1: Sync of one that is gone", d.Sync("a"), api.ErrNone)
}

func TestDelete(t *testing.T) {
	d := New(100)
	wantErr(t, "P3.1: Delete on an empty disk", d.Delete("a"), api.ErrNone)
	must(t, d.Append("a", []byte("one")), d.Sync("a"), d.Append("b", []byte("x")), d.Append("c", nil))
	wantErr(t, "P3.1: Delete of none", d.Delete("d"), api.ErrNone)
	wantTold(t, "P3.1: Delete of none", d, "a=one/3 b=x/0 c=/0 4")
	wantErr(t, "P3.1: Delete", d.Delete("a"), api.OK)
	wantNotThere(t, "P3.1: Delete", d, "a")
	wantTold(t, "P3.1: Delete", d, "b=x/0 c=/0 1")
	wantErr(t, "P3.1: Delete twice", d.Delete("a"), api.ErrNone)
	wantErr(t, "P3.1: Delete of a file without bytes", d.Delete("c"), api.OK)
	wantTold(t, "P3.1: Delete", d, "b=x/0 1")
	must(t, d.Append("a", []byte("new")))
	wantTold(t, "P3.1: a new file has nothing of the one that is gone", d, "a=new/0 b=x/0 4")
}

func TestRename(t *testing.T) {
	for _, c := range []struct {
		from, to string
		err      api.Errno
		want     string
	}{
		{"a", "new", api.OK, "b=xy/2 c=/0 new=onetwo/3 8"},
		{"b", "a", api.OK, "a=xy/2 c=/0 2"},
		{"a", "b", api.OK, "b=onetwo/3 c=/0 6"},
		{"c", "a", api.OK, "a=/0 b=xy/2 2"},
		{"a", "c", api.OK, "b=xy/2 c=onetwo/3 8"},
		{"a", "a", api.OK, "a=onetwo/3 b=xy/2 c=/0 8"},
		{"c", "c", api.OK, "a=onetwo/3 b=xy/2 c=/0 8"},
		{"q", "a", api.ErrNone, "a=onetwo/3 b=xy/2 c=/0 8"},
		{"q", "r", api.ErrNone, "a=onetwo/3 b=xy/2 c=/0 8"},
		{"q", "q", api.ErrNone, "a=onetwo/3 b=xy/2 c=/0 8"},
		{"", "r", api.ErrNone, "a=onetwo/3 b=xy/2 c=/0 8"},
		{"a", "A", api.ErrForm, "a=onetwo/3 b=xy/2 c=/0 8"},
		{"q", "A", api.ErrForm, "a=onetwo/3 b=xy/2 c=/0 8"},
	} {
		d := New(100)
		must(t, d.Append("a", []byte("one")), d.Sync("a"), d.Append("a", []byte("two")))
		must(t, d.Append("b", []byte("xy")), d.Sync("b"), d.Append("c", nil))
		what := fmt.Sprintf("P3.1: Rename %q to %q", c.from, c.to)
		wantErr(t, what, d.Rename(c.from, c.to), c.err)
		wantTold(t, what, d, c.want)
	}
}

func TestRenamedFileGoesOn(t *testing.T) {
	d := New(100)
	must(t, d.Append("a", []byte("one")), d.Sync("a"), d.Append("a", []byte("two")), d.Rename("a", "b"))
	wantNotThere(t, "P3.1: what it was called", d, "a")
	must(t, d.Append("a", []byte("new")), d.Append("b", []byte("!")))
	wantTold(t, "P3.1: two files behind a Rename", d, "a=new/0 b=onetwo!/3 10")
	must(t, d.Sync("a"))
	wantTold(t, "P3.1: Sync of the new one alone", d, "a=new/3 b=onetwo!/3 10")
	must(t, d.Delete("a"), d.Sync("b"))
	wantTold(t, "P3.1: the renamed one", d, "b=onetwo!/7 7")
}

func TestNamesRise(t *testing.T) {
	d := New(0)
	if got := d.Names(); len(got) != 0 {
		t.Errorf("P3.1: Names %q of an empty disk", got)
	}
	names := []string{"z", "log010", "b", "a", "log001", "9", "aa", "0", "ab", "a0", "log1", "10"}
	for _, name := range names {
		must(t, d.Append(name, nil))
	}
	must(t, d.Rename("b", "m"), d.Delete("9"))
	want := []string{"0", "10", "a", "a0", "aa", "ab", "log001", "log010", "log1", "m", "z"}
	for range 20 {
		if got := d.Names(); !slices.Equal(got, want) {
			t.Fatalf("P3.1: Names %q, want %q", got, want)
		}
	}
}

// falling is a disk with a file of each sort: what is sure, what is not, with and without bytes.
func falling(t *testing.T) *Disk {
	t.Helper()
	d := New(1000)
	must(t, d.Append("both", []byte("sure")), d.Sync("both"), d.Append("both", []byte("loose")))
	must(t, d.Append("empty", nil))
	must(t, d.Append("loose", []byte("abc")))
	must(t, d.Append("old", []byte("xyz")), d.Rename("old", "moved"))
	must(t, d.Append("old", nil), d.Rename("old", "movedempty"))
	must(t, d.Append("same", nil), d.Rename("same", "same"))
	must(t, d.Append("synced", nil), d.Sync("synced"))
	must(t, d.Append("syncedlate", nil), d.Sync("syncedlate"), d.Append("syncedlate", []byte("l")))
	must(t, d.Append("whole", []byte("all")), d.Sync("whole"))
	return d
}

func TestFall(t *testing.T) {
	none := "both=sure/4 moved=/0 movedempty=/0 synced=/0 syncedlate=/0 whole=all/3 7"
	d := falling(t)
	was := told(d)
	for _, c := range []struct {
		n    int
		want string
	}{
		{math.MinInt, none}, {-1 << 40, none}, {-2, none}, {-1, none}, {0, none},
		{1, "both=surel/5 loose=a/1 moved=x/1 movedempty=/0 synced=/0 syncedlate=l/1 whole=all/3 11"},
		{2, "both=surelo/6 loose=ab/2 moved=xy/2 movedempty=/0 synced=/0 syncedlate=/0 whole=all/3 13"},
		{3, "both=sureloo/7 loose=abc/3 moved=xyz/3 movedempty=/0 synced=/0 syncedlate=l/1 whole=all/3 17"},
		{4, "both=sureloos/8 moved=/0 movedempty=/0 synced=/0 syncedlate=/0 whole=all/3 11"},
		{5, "both=sureloose/9 loose=a/1 moved=x/1 movedempty=/0 synced=/0 syncedlate=l/1 whole=all/3 15"},
		{6, "both=sure/4 loose=ab/2 moved=xy/2 movedempty=/0 synced=/0 syncedlate=/0 whole=all/3 11"},
		{11, "both=sureloose/9 loose=abc/3 moved=xyz/3 movedempty=/0 synced=/0 syncedlate=l/1 whole=all/3 19"},
		{12, none},
		{12_000_000_000_000, none},
		{12_000_000_000_001, "both=surel/5 loose=a/1 moved=x/1 movedempty=/0 synced=/0 syncedlate=l/1 whole=all/3 11"},
		{math.MaxInt, "both=surel/5 loose=abc/3 moved=xyz/3 movedempty=/0 synced=/0 syncedlate=l/1 whole=all/3 15"},
	} {
		what := fmt.Sprintf("P3.2: Fall(%d)", c.n)
		behind := d.Fall(c.n)
		wantTold(t, what, behind, c.want)
		for _, n := range []int{-1, 0, 1, 2, c.n} {
			wantTold(t, what+", and again: all of it is sure", behind.Fall(n), c.want)
		}
		wantTold(t, what+": the elder one", d, was)
	}
}

// A name that a fall left is sure from then on; one that was made anew is not.
func TestFallAndNamesMadeAnew(t *testing.T) {
	d := New(100)
	must(t, d.Append("a", []byte("x")))
	one := d.Fall(1)
	must(t, one.Delete("a"), one.Append("a", nil), one.Append("b", nil))
	wantTold(t, "P3.2: made anew behind a Fall", one.Fall(0), "0")

	must(t, d.Sync("a"), d.Delete("a"), d.Append("a", []byte("new")))
	wantTold(t, "P3.2: made anew behind a Delete", d.Fall(0), "0")
	wantTold(t, "P3.2: made anew behind a Delete", d.Fall(2), "a=ne/2 2")

	must(t, d.Sync("a"), d.Rename("a", "b"), d.Append("a", []byte("newer")))
	wantTold(t, "P3.2: made anew behind a Rename", d.Fall(0), "b=new/3 3")
	wantTold(t, "P3.2: made anew behind a Rename", d.Fall(1), "a=n/1 b=new/3 4")

	must(t, d.Rename("a", "b"))
	wantTold(t, "P3.2: renamed onto a sure one", d.Fall(0), "b=/0 0")
	must(t, d.Delete("b"))
	wantTold(t, "P3.2: Delete is for sure", d.Fall(1), "0")
}

// What was sure before a Fall and what stayed behind it goes on as one file.
func TestDiskBehindFallGoesOn(t *testing.T) {
	d := falling(t).Fall(2)
	must(t, d.Append("both", []byte("++")), d.Append("moved", []byte("z")), d.Append("new", []byte("n")))
	wantTold(t, "P3.2: Append behind a Fall", d, "both=surelo++/6 loose=ab/2 moved=xyz/2 movedempty=/0 new=n/0 synced=/0 syncedlate=/0 whole=all/3 17")
	wantTold(t, "P3.2: a second Fall", d.Fall(0), "both=surelo/6 loose=ab/2 moved=xy/2 movedempty=/0 synced=/0 syncedlate=/0 whole=all/3 13")
	wantTold(t, "P3.2: a second Fall", d.Fall(1), "both=surelo+/7 loose=ab/2 moved=xyz/3 movedempty=/0 new=n/1 synced=/0 syncedlate=/0 whole=all/3 16")
}

func TestFallHasTheSameRoom(t *testing.T) {
	for _, room := range []int{-1, 0, 1, 5, 1 << 20, 1 << 30} {
		want := min(max(room, 0), 1<<20)
		d := New(room).Fall(1)
		wantErr(t, "P3.2: one byte more", d.Append("a", make([]byte, want+1)), api.ErrFull)
		wantErr(t, "P3.2: the same room", d.Append("a", make([]byte, want)), api.OK)
	}
	d := New(10)
	must(t, d.Append("a", []byte("12345")), d.Sync("a"), d.Append("b", []byte("67890")))
	for n, left := range []int{5, 4, 3, 2, 1, 0, 5} {
		behind := d.Fall(n)
		wantErr(t, "P3.2: more than is left", behind.Append("c", make([]byte, left+1)), api.ErrFull)
		wantErr(t, "P3.2: what was lost has room again", behind.Append("c", make([]byte, left)), api.OK)
		if behind.Used() != 10 {
			t.Errorf("P3.2: Used %d behind Fall(%d)", behind.Used(), n)
		}
	}
	wantErr(t, "P3.2: the elder one is full still", d.Append("c", []byte("x")), api.ErrFull)
}

// trouble does to a disk all that can be done.
func trouble(t *testing.T, d *Disk) {
	t.Helper()
	must(t, d.Append("both", []byte("trouble")), d.Sync("both"), d.Append("fresh", []byte("f")), d.Sync("fresh"))
	must(t, d.Rename("moved", "both"), d.Delete("whole"), d.Rename("synced", "elsewhere"), d.Append("movedempty", []byte("?")), d.Sync("movedempty"))
	for _, name := range d.Names() {
		b, _ := d.Read(name)
		for k := range b {
			b[k] = '#'
		}
	}
}

func TestElderAndYoungerAreApart(t *testing.T) {
	for n := range 12 {
		elder := falling(t)
		wasElder := told(elder)
		younger := elder.Fall(n)
		wasYounger := told(younger)
		third := younger.Fall(n)
		trouble(t, younger)
		wantTold(t, "P3.2: the elder one, when the younger one is turned", elder, wasElder)
		wantTold(t, "P3.2: the third one, when the younger one is turned", third, wasYounger)
		wantTold(t, "P3.2: Fall anew", elder.Fall(n), wasYounger)
		another := elder.Fall(n)
		trouble(t, elder)
		wantTold(t, "P3.2: the younger one, when the elder one is turned", another, wasYounger)
	}
}

func TestTwoDisksAreApart(t *testing.T) {
	one, two := New(10), New(10)
	must(t, one.Append("a", []byte("x")))
	wantTold(t, "P0.5: another disk", two, "0")
	wantErr(t, "P0.5: another disk", two.Sync("a"), api.ErrNone)
}

func TestListsAreNotShared(t *testing.T) {
	long := []byte("mine-----")
	d := New(1000)
	must(t, d.Append("a", long[:4]), d.Append("a", long[:4]), d.Append("b", long[:4]))
	if string(long) != "mine-----" {
		t.Errorf("P0.3: %q: the list that was handed in, or its spare room, was changed", long)
	}
	for k := range long {
		long[k] = 'x'
	}
	want := "a=minemine/0 b=mine/0 12"
	wantTold(t, "P0.3: the list that was handed in was kept", d, want)

	one, _ := d.Read("a")
	two, _ := d.Read("a")
	for _, b := range [][]byte{one, one[:cap(one)]} {
		for k := range b {
			b[k] = '#'
		}
	}
	if string(two) != "minemine" {
		t.Errorf("P0.3: %q: two answers share memory", two)
	}
	wantTold(t, "P0.3: an answer was written into", d, want)
	must(t, d.Append("a", []byte("!")))
	wantTold(t, "P0.3: spare room of an answer was written into", d, "a=minemine!/0 b=mine/0 13")
	if string(two) != "minemine" {
		t.Errorf("P0.3: %q: an earlier answer is turned by an Append", two)
	}

	names := d.Names()
	names[0] = "zzz"
	_ = append(names[:1], "yyy")
	wantTold(t, "P0.3: Names was written into", d, "a=minemine!/0 b=mine/0 13")
}

// What Read has told may be handed in again, for the same file too.
func TestAppendOfWhatWasRead(t *testing.T) {
	d := New(100)
	must(t, d.Append("a", []byte("ab")))
	for range 3 {
		b, _ := d.Read("a")
		must(t, d.Append("a", b))
	}
	wantTold(t, "P3.1: Append of what was read", d, "a="+strings.Repeat("ab", 8)+"/0 16")
}

func TestNil(t *testing.T) {
	var d *Disk
	for _, name := range []string{"a", "", "A", "abcdefghijklm"} {
		wantErr(t, "P3.2: nil: Append", d.Append(name, nil), api.ErrDown)
		wantErr(t, "P3.2: nil: Append", d.Append(name, []byte("x")), api.ErrDown)
		wantErr(t, "P3.2: nil: Sync", d.Sync(name), api.ErrDown)
		wantErr(t, "P3.2: nil: Rename", d.Rename("a", name), api.ErrDown)
		wantErr(t, "P3.2: nil: Rename", d.Rename(name, name), api.ErrDown)
		wantErr(t, "P3.2: nil: Delete", d.Delete(name), api.ErrDown)
		wantNotThere(t, "P3.2: nil", d, name)
	}
	if names, n := d.Names(), d.Used(); len(names) != 0 || n != 0 {
		t.Errorf("P3.2: nil: Names %q, Used %d", names, n)
	}
	for _, n := range []int{math.MinInt, -1, 0, 1, math.MaxInt} {
		if d.Fall(n) != nil {
			t.Errorf("P3.2: nil: Fall(%d) is a disk", n)
		}
	}
}

// A Disk that New did not make has no room; nothing of it panics.
func TestZeroDisk(t *testing.T) {
	d := new(Disk)
	wantErr(t, "P0.1: Sync", d.Sync("a"), api.ErrNone)
	wantErr(t, "P0.1: Rename", d.Rename("a", "b"), api.ErrNone)
	wantErr(t, "P0.1: Delete", d.Delete("a"), api.ErrNone)
	wantNotThere(t, "P0.1", d, "a")
	wantTold(t, "P0.1: Fall", d.Fall(1), "0")
	wantErr(t, "P0.1: Append", d.Append("a", []byte("x")), api.ErrFull)
	wantErr(t, "P0.1: Append", d.Append("a", nil), api.OK)
	wantTold(t, "P0.1", d, "a=/0 0")
}

// Many short Appends to one file and many files must end soon, too.
func TestManySteps(t *testing.T) {
	d := New(1 << 20)
	for range 1 << 19 {
		must(t, d.Append("a", []byte("x")))
	}
	for k := range 1 << 16 {
		must(t, d.Append(fmt.Sprint("f", k), []byte("y")))
	}
	if n := d.Used(); n != 1<<19+1<<16 || len(d.Names()) != 1<<16+1 {
		t.Errorf("P3.1: Used %d, %d names", n, len(d.Names()))
	}
	if n := d.Fall(1).Used(); n != 1<<16+1 {
		t.Errorf("P3.2: Used %d behind Fall(1)", n)
	}
}

// plainFile is a file of plainDisk: bytes, and of each whether it is sure.
type plainFile struct {
	name  string
	b     string
	sure  []bool
	stays bool
}

// plainDisk is a disk by another way: a row of files, of which each call looks at all.
type plainDisk struct {
	room int
	row  []plainFile
}

var errNo = errors.New("no such file")

func (p *plainDisk) find(name string) (int, error) {
	for k, f := range p.row {
		if f.name == name {
			return k, nil
		}
	}
	return 0, errNo
}

func (p *plainDisk) used() int {
	n := 0
	for _, f := range p.row {
		n += len(f.b)
	}
	return n
}

func (p *plainDisk) append(name, b string) api.Errno {
	if p.used()+len(b) > p.room {
		return api.ErrFull
	}
	k, err := p.find(name)
	if err != nil {
		k = len(p.row)
		p.row = append(p.row, plainFile{name: name})
	}
	p.row[k].b += b
	p.row[k].sure = append(p.row[k].sure, make([]bool, len(b))...)
	return api.OK
}

func (p *plainDisk) sync(name string) api.Errno {
	k, err := p.find(name)
	if err != nil {
		return api.ErrNone
	}
	for j := range p.row[k].sure {
		p.row[k].sure[j] = true
	}
	p.row[k].stays = true
	return api.OK
}

func (p *plainDisk) rename(from, to string) api.Errno {
	k, err := p.find(from)
	if err != nil {
		return api.ErrNone
	}
	if from != to {
		p.row[k].name, p.row[k].stays = "moving", true
		p.delete(to)
		k, _ = p.find("moving")
		p.row[k].name = to
	}
	return api.OK
}

func (p *plainDisk) delete(name string) api.Errno {
	k, err := p.find(name)
	if err != nil {
		return api.ErrNone
	}
	p.row = slices.Delete(p.row, k, k+1)
	return api.OK
}

func (p *plainDisk) fall(n int) *plainDisk {
	q := &plainDisk{room: p.room}
	for _, f := range p.row {
		loose := strings.Count(fmt.Sprint(f.sure), "false")
		keep := len(f.b) - loose
		if n > 0 {
			keep += n % (loose + 1)
		}
		if keep > 0 || f.stays {
			q.row = append(q.row, plainFile{f.name, f.b[:keep], slices.Repeat([]bool{true}, keep), true})
		}
	}
	return q
}

func (p *plainDisk) told() string {
	row := slices.Clone(p.row)
	slices.SortFunc(row, func(a, b plainFile) int { return strings.Compare(a.name, b.name) })
	s := ""
	for _, f := range row {
		s += fmt.Sprintf("%s=%s/%d ", f.name, f.b, strings.Count(fmt.Sprint(f.sure), "true"))
	}
	return s + fmt.Sprint(p.used())
}

// FuzzAgainstPlain does the same steps to both kinds of disk.
func FuzzAgainstPlain(f *testing.F) {
	seed := uint64(1)
	for n := range 300 {
		steps := make([]byte, n)
		for k := range steps {
			seed = seed*6364136223846793005 + 1442695040888963407
			steps[k] = byte(seed >> 56)
		}
		f.Add(steps)
	}
	names := []string{"a", "b", "cc", "0"}
	f.Fuzz(func(t *testing.T, steps []byte) {
		d, p := New(40), &plainDisk{room: 40}
		for ; len(steps) >= 2; steps = steps[2:] {
			name, x := names[steps[0]>>6], steps[1]
			var got, want api.Errno
			switch steps[0] % 8 {
			case 0, 1, 2:
				b := bytes.Repeat([]byte{'a' + x%26}, int(x>>5))
				got, want = d.Append(name, b), p.append(name, string(b))
			case 3:
				got, want = d.Sync(name), p.sync(name)
			case 4:
				got, want = d.Rename(name, names[x%4]), p.rename(name, names[x%4])
			case 5:
				got, want = d.Delete(name), p.delete(name)
			case 6:
				n := int(int8(x))
				d, p = d.Fall(n), p.fall(n)
			default:
				n := int(int8(x))
				wantTold(t, fmt.Sprintf("P3.2: Fall(%d)", n), d.Fall(n), p.fall(n).told())
			}
			wantErr(t, fmt.Sprintf("P3.1: step %x", steps[:2]), got, want)
			wantTold(t, fmt.Sprintf("P3.1: step %x", steps[:2]), d, p.told())
		}
	})
}
