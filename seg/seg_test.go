package seg

import (
	"bytes"
	"encoding/binary"
	"fmt"
	"hash/crc32"
	"math"
	"slices"
	"strings"
	"testing"

	"postillion/api"
	"postillion/file"
)

// plainFrame is a frame by another way: of any length, so that those that no frame has can be tried as well.
func plainFrame(text string) []byte {
	head := binary.LittleEndian.AppendUint16(nil, uint16(len(text)))
	s := crc32.Checksum(append(slices.Clone(head), text...), crc32.MakeTable(crc32.Castagnoli))
	return append(binary.LittleEndian.AppendUint32(head, s), text...)
}

// plainFrames are frames one behind the other.
func plainFrames(texts ...string) []byte {
	var b []byte
	for _, text := range texts {
		b = append(b, plainFrame(text)...)
	}
	return b
}

// row is a text of n bytes, none of them nought.
func row(n int) string {
	b := make([]byte, n)
	for k := range b {
		b[k] = byte('a' + k%26)
	}
	return string(b)
}

func wantErr(t *testing.T, what string, got, want api.Errno) {
	t.Helper()
	if got != want {
		t.Errorf("%s: error %d, want %d", what, got, want)
	}
}

// must does what has to go well for a test to mean anything.
func must(t *testing.T, errs ...api.Errno) {
	t.Helper()
	for k, err := range errs {
		if err != api.OK {
			t.Fatalf("step %d: error %d", k, err)
		}
	}
}

func mustOpen(t *testing.T, d *file.Disk, from int) *Log {
	t.Helper()
	l, err := Open(d, from)
	if l == nil || err != api.OK {
		t.Fatalf("Open from %d: %v, error %d", from, l, err)
	}
	return l
}

// told tells what a log has: its texts (of long ones how long they are), and the last segment's number.
func told(l *Log) string {
	var s strings.Builder
	for _, b := range l.All() {
		if len(b) > 10 {
			fmt.Fprintf(&s, "%s..%d ", b[:3], len(b))
		} else {
			fmt.Fprintf(&s, "%s ", b)
		}
	}
	fmt.Fprint(&s, l.At())
	return s.String()
}

func wantTold(t *testing.T, what string, l *Log, want string) {
	t.Helper()
	if got := told(l); got != want {
		t.Errorf("%s: %q, want %q", what, got, want)
	}
}

// lies tells of each file how many bytes it has, and how many of them are sure.
func lies(d *file.Disk) string {
	var s strings.Builder
	for _, name := range d.Names() {
		b, _ := d.Read(name)
		fmt.Fprintf(&s, "%s=%d/%d ", name, len(b), d.Sure(name))
	}
	return s.String()
}

func wantLies(t *testing.T, what string, d *file.Disk, want string) {
	t.Helper()
	if got := lies(d); got != want {
		t.Errorf("%s: files %q, want %q", what, got, want)
	}
}

// diskOf is a disk with these files.
func diskOf(t *testing.T, files map[string][]byte) *file.Disk {
	t.Helper()
	d := file.New(api.MaxFile)
	for name, b := range files {
		must(t, d.Append(name, b))
	}
	return d
}

func TestName(t *testing.T) {
	for n, want := range map[int]string{
		0: "log000", 1: "log001", 9: "log009", 10: "log010", 99: "log099", 100: "log100", 998: "log998", 999: "log999",
		-1: "", -999: "", 1000: "", 1001: "", 10000: "", math.MinInt: "", math.MaxInt: "",
	} {
		if got := Name(n); got != want {
			t.Errorf("P4: Name(%d): %q, want %q", n, got, want)
		}
	}
	for n := range 1000 {
		if got := Name(n); got != fmt.Sprintf("log%03d", n) {
			t.Errorf("P4: Name(%d): %q", n, got)
		}
	}
}

func TestFrame(t *testing.T) {
	for _, n := range []int{1, 2, 3, 255, 256, 257, 1000, 1993, 1994, 3999, 4000} {
		text := row(n)
		if got := Frame([]byte(text)); !bytes.Equal(got, plainFrame(text)) || len(got) != 6+n {
			t.Errorf("P4: Frame of %d bytes: %x", n, got)
		}
	}
	for x := range 256 {
		text := string([]byte{byte(x)})
		if got := Frame([]byte(text)); !bytes.Equal(got, plainFrame(text)) {
			t.Errorf("P4: Frame of the byte %d: %x", x, got)
		}
	}
	if got, want := fmt.Sprintf("%x", Frame([]byte("ab"))), "0200"+fmt.Sprintf("%x", plainFrame("ab")[2:6])+"6162"; got != want {
		t.Errorf("P4: Frame of ab: %s, want %s", got, want)
	}
}

func TestNoFrame(t *testing.T) {
	for name, b := range map[string][]byte{
		"nil": nil, "empty": {}, "empty, with spare room": []byte("abc")[:0], "4001": make([]byte, 4001), "65535": make([]byte, 65535),
		"65536": make([]byte, 65536), "65537, of which the lowest bits say 1": make([]byte, 65537), "a long one": make([]byte, 1<<20),
	} {
		if got := Frame(b); got != nil {
			t.Errorf("P4: Frame, %s: %d bytes, not nil", name, len(got))
		}
	}
}

func wantCut(t *testing.T, what string, b []byte, text string, n int) {
	t.Helper()
	got, k, err := Cut(b)
	if string(got) != text || k != n || err != api.OK {
		t.Errorf("%s: Cut: %q, %d, error %d; want %q, %d", what, got, k, err, text, n)
	}
}

func wantNoCut(t *testing.T, what string, b []byte, want api.Errno) {
	t.Helper()
	got, k, err := Cut(b)
	if got != nil || k != 0 || err != want {
		t.Errorf("%s: Cut: %q, %d, error %d; want error %d", what, got, k, err, want)
	}
}

func TestCutOfFrames(t *testing.T) {
	for _, n := range []int{1, 2, 3, 100, 255, 256, 257, 3999, 4000} {
		text := row(n)
		f := plainFrame(text)
		wantCut(t, fmt.Sprintf("P4: %d bytes", n), f, text, n+6)
		for _, behind := range []string{"x", "\x00", "\x00\x00\x00", string(f), string(f[:5]), row(5000)} {
			wantCut(t, fmt.Sprintf("P4: %d bytes, and %d behind", n, len(behind)), append(slices.Clone(f), behind...), text, n+6)
		}
	}
	wantCut(t, "P4: a nought", plainFrame("\x00"), "\x00", 7)
}

func TestCutOfFronts(t *testing.T) {
	wantNoCut(t, "P4: nil", nil, api.ErrMore)
	wantNoCut(t, "P4: empty", []byte{}, api.ErrMore)
	for _, n := range []int{1, 2, 9, 256, 4000} {
		f := plainFrame(row(n))
		for k := range f {
			wantNoCut(t, fmt.Sprintf("P4: %d of %d bytes", k, len(f)), f[:k], api.ErrMore)
			wantNoCut(t, fmt.Sprintf("P4: %d of %d bytes, copied", k, len(f)), slices.Clone(f[:k]), api.ErrMore)
		}
	}
	for x := range 256 {
		wantNoCut(t, fmt.Sprintf("P4: the byte %d alone", x), []byte{byte(x)}, api.ErrMore)
	}
}

// The length is told by two bytes: whether it may be counts from there on, whatever comes behind.
func TestCutOfLengths(t *testing.T) {
	for n := range 65536 {
		want := api.ErrMore
		if n == 0 || n > 4000 {
			want = api.ErrCorrupt
		}
		head := []byte{byte(n), byte(n >> 8), 1, 2, 3, 4}
		for k := 2; k <= len(head); k++ {
			wantNoCut(t, fmt.Sprintf("P4: a length of %d, %d bytes", n, k), head[:k], want)
		}
	}
	for _, n := range []int{0, 4001, 4002, 10000, 65535} {
		f := plainFrame(row(n))
		wantNoCut(t, fmt.Sprintf("P4: a length of %d, all there", n), f, api.ErrCorrupt)
		wantNoCut(t, fmt.Sprintf("P4: a length of %d, and more behind", n), append(f, row(70000)...), api.ErrCorrupt)
	}
}

func TestCutOfTurnedBytes(t *testing.T) {
	for _, n := range []int{1, 2, 20, 300} {
		f := plainFrame(row(n))
		for k := range f {
			for _, turn := range []byte{1, 2, 16, 128, 255} {
				g := slices.Clone(f)
				g[k] ^= turn
				want := api.ErrCorrupt
				if says := int(g[0]) | int(g[1])<<8; n < says && says <= 4000 {
					want = api.ErrMore
				}
				wantNoCut(t, fmt.Sprintf("P4: the byte %d of %d bytes turned by %d", k, len(f), turn), g, want)
				wantNoCut(t, fmt.Sprintf("P4: the byte %d of %d bytes turned by %d, and more behind", k, len(f), turn), append(g, row(5000)...), api.ErrCorrupt)
			}
		}
	}
	swapped := plainFrame("ab")
	swapped[6], swapped[7] = 'b', 'a'
	wantNoCut(t, "P4: another text", swapped, api.ErrCorrupt)
}

// The sum is over the length too: of the text alone it is another one.
func TestSumIsOverLengthToo(t *testing.T) {
	f := plainFrame("abc")
	binary.LittleEndian.PutUint32(f[2:], crc32.Checksum([]byte("abc"), crc32.MakeTable(crc32.Castagnoli)))
	wantNoCut(t, "P4: a sum of the text alone", f, api.ErrCorrupt)
	f = plainFrame("abc")
	slices.Reverse(f[2:6])
	wantNoCut(t, "P4: the sum's highest byte first", f, api.ErrCorrupt)
}

func TestOpenOfNothing(t *testing.T) {
	for _, from := range []int{0, 1, 500, 998, 999} {
		d := diskOf(t, map[string][]byte{"state": []byte("other")})
		l := mustOpen(t, d, from)
		wantTold(t, "P4.1: Open of nothing", l, fmt.Sprint(from))
		wantErr(t, "P4.1: Force of nothing", l.Force(), api.OK)
		wantLies(t, "P4.1: Open makes no file", d, "state=5/0 ")
		must(t, l.Add([]byte("x")))
		wantLies(t, "P4.1: the first Add", d, Name(from)+"=7/0 state=5/0 ")
	}
}

func TestOpenOutOfRange(t *testing.T) {
	for _, from := range []int{-1, -1000, 1000, 1001, math.MinInt, math.MaxInt} {
		d := diskOf(t, map[string][]byte{"log000": plainFrame("one"), "new": []byte("abc")})
		for _, disk := range []*file.Disk{d, nil} {
			l, err := Open(disk, from)
			if l != nil || err != api.ErrRange {
				t.Errorf("P4.1: Open from %d: %v, error %d", from, l, err)
			}
		}
		wantLies(t, "P4.1: ErrRange does nothing", d, "log000=9/0 new=3/0 ")
	}
}

func TestOpenWithoutDisk(t *testing.T) {
	for _, from := range []int{0, 5, 999} {
		if l, err := Open(nil, from); l != nil || err != api.ErrDown {
			t.Errorf("P4.1: Open of no disk: %v, error %d", l, err)
		}
	}
}

func TestOpenFrom(t *testing.T) {
	files := map[string][]byte{
		"log000": plainFrames("a"), "log001": plainFrames("b", "c"), "log003": plainFrames("d"), "log004": {}, "log500": plainFrames("e", "f"), "log999": plainFrames("g"),
	}
	for from, want := range map[int]string{
		0: "a b c d e f g 999", 1: "b c d e f g 999", 2: "d e f g 999", 3: "d e f g 999", 4: "e f g 999", 499: "e f g 999", 500: "e f g 999", 501: "g 999", 998: "g 999", 999: "g 999",
	} {
		wantTold(t, fmt.Sprintf("P4.1: Open from %d", from), mustOpen(t, diskOf(t, files), from), want)
	}
	delete(files, "log999")
	for from, want := range map[int]string{0: "a b c d e f 500", 500: "e f 500", 501: "501", 998: "998", 999: "999"} {
		d := diskOf(t, files)
		was := lies(d)
		l := mustOpen(t, d, from)
		wantTold(t, fmt.Sprintf("P4.1: Open from %d", from), l, want)
		wantLies(t, "P4.1: Open of what is whole", d, was)
		must(t, l.Add([]byte("new")))
		wantTold(t, "P4.1: Open, and Add", mustOpen(t, d, from), strings.Replace(want, fmt.Sprint(l.At()), fmt.Sprint("new ", l.At()), 1))
	}
}

// A file of the last segment may be without bytes; it is the last one even so.
func TestOpenOfEmptyLastFile(t *testing.T) {
	d := diskOf(t, map[string][]byte{"log000": plainFrames("a"), "log002": {}})
	l := mustOpen(t, d, 0)
	wantTold(t, "P4.1: an empty last file", l, "a 2")
	wantLies(t, "P4.1: an empty last file", d, "log000=7/0 log002=0/0 ")
	must(t, l.Add([]byte("b")))
	wantLies(t, "P4.1: an empty last file", d, "log000=7/0 log002=7/0 ")
}

func TestOpenSeesNoOtherFiles(t *testing.T) {
	d := diskOf(t, map[string][]byte{
		"log": []byte("!"), "log00": []byte("!"), "log0000": []byte("!"), "log1000": []byte("!"), "logabc": []byte("!"), "news": []byte("!"), "next": []byte("!"), "log000": plainFrames("a"),
	})
	was := lies(d)
	wantTold(t, "P4.1: other files", mustOpen(t, d, 0), "a 0")
	wantLies(t, "P4.1: other files", d, was)
}

func TestNewIsDeleted(t *testing.T) {
	for _, left := range [][]byte{nil, []byte("left"), plainFrame("whole")} {
		d := diskOf(t, map[string][]byte{"new": left, "log000": plainFrames("a", "b")})
		wantTold(t, "P4.1: a file new", mustOpen(t, d, 0), "a b 0")
		wantLies(t, "P4.1: a file new", d, "log000=14/0 ")
		d = diskOf(t, map[string][]byte{"new": left})
		wantTold(t, "P4.1: a file new alone", mustOpen(t, d, 7), "7")
		wantLies(t, "P4.1: a file new alone", d, "")
		d = diskOf(t, map[string][]byte{"new": left, "log000": plainFrames("a", "b")[:13]})
		wantTold(t, "P4.1: a file new, and a torn tail", mustOpen(t, d, 0), "a 0")
		wantLies(t, "P4.1: a file new, and a torn tail", d, "log000=7/7 ")
	}
}

// What a file new holds has room for what is written anew.
func TestNewGivesItsRoomBack(t *testing.T) {
	d := file.New(30)
	must(t, d.Append("log000", plainFrames("a", "b")[:13]), d.Append("new", make([]byte, 17)))
	wantTold(t, "P4.1: a file new on a full disk", mustOpen(t, d, 0), "a 0")
	wantLies(t, "P4.1: a file new on a full disk", d, "log000=7/7 ")
}

func TestTornTailOfLast(t *testing.T) {
	b := plainFrames("one", "two", "six")
	for k := range b {
		for _, from := range []int{0, 3, 7} {
			d := diskOf(t, map[string][]byte{"log003": plainFrames("elder"), "log007": b[:k]})
			l := mustOpen(t, d, from)
			want := []string{"7", "one 7", "one two 7"}[k/9]
			if from <= 3 {
				want = "elder " + want
			}
			what := fmt.Sprintf("P4.1: %d of %d bytes, from %d", k, len(b), from)
			wantTold(t, what, l, want)
			stands := k / 9 * 9
			sure := stands
			if stands == k {
				sure = 0 // nothing was torn, so nothing was written anew
			}
			wantLies(t, what, d, fmt.Sprintf("log003=11/0 log007=%d/%d ", stands, sure))
			if got, _ := d.Read("log007"); !bytes.Equal(got, b[:stands]) {
				t.Errorf("%s: %x stands", what, got)
			}
			must(t, l.Add([]byte("more")))
			wantTold(t, what+", and Add", mustOpen(t, d, from), strings.Replace(want, "7", "more 7", 1))
		}
	}
}

// What is written anew has its name for sure, even where nothing stands.
func TestTornTailAlone(t *testing.T) {
	d := diskOf(t, map[string][]byte{"log002": plainFrame("abc")[:5]})
	wantTold(t, "P4.1: a torn tail alone", mustOpen(t, d, 0), "2")
	wantLies(t, "P4.1: a torn tail alone", d, "log002=0/0 ")
	wantLies(t, "P4.1: a torn tail alone, behind a fall", d.Fall(0), "log002=0/0 ")
}

func wantNoOpen(t *testing.T, what string, d *file.Disk, from int, want api.Errno) {
	t.Helper()
	if l, err := Open(d, from); l != nil || err != want {
		t.Errorf("%s: Open from %d: %v, error %d, want %d", what, from, l, err, want)
	}
}

func TestTornTailOfAnother(t *testing.T) {
	b := plainFrames("one", "two")
	for k := range b {
		for _, last := range []map[string][]byte{
			{"log004": plainFrame("last")}, {"log005": plainFrame("last")}, {"log004": {}}, {"log999": {}}, {"log004": plainFrame("last")[:3]},
		} {
			last["log003"] = b[:k]
			d := diskOf(t, last)
			was := lies(d)
			if k%9 == 0 {
				mustOpen(t, d, 0)
				continue
			}
			for _, from := range []int{0, 3} {
				wantNoOpen(t, fmt.Sprintf("P4.1: %d bytes of another one", k), d, from, api.ErrCorrupt)
			}
			wantLies(t, "P4.1: a log that is spoilt stays as it is", d, was)
			mustOpen(t, d, 4)
		}
	}
}

func TestWhatIsNoFrame(t *testing.T) {
	whole := plainFrames("one", "two", "six")
	for k := range whole {
		b := slices.Clone(whole)
		b[k] ^= 64
		if k%9 == 1 {
			b[k] = 255 // a length that no frame has; less would make a torn tail of it
		}
		if k%9 == 0 {
			b[k] = 0
		}
		for _, beside := range []map[string][]byte{{}, {"log001": plainFrame("elder")}, {"log003": plainFrame("younger")}, {"log003": {}}} {
			beside["log002"] = b
			d := diskOf(t, beside)
			was := lies(d)
			for _, from := range []int{0, 2} {
				wantNoOpen(t, fmt.Sprintf("P4.1: the byte %d turned", k), d, from, api.ErrCorrupt)
			}
			wantLies(t, "P4.1: a log that is spoilt stays as it is", d, was)
			mustOpen(t, d, 3)
		}
	}
	for _, s := range []string{"\x00\x00", "\xff\xff", "\xa1\x0f", "\x00\x00abcdef", "no frame at all"} {
		wantNoOpen(t, fmt.Sprintf("P4.1: %q", s), diskOf(t, map[string][]byte{"log000": []byte(s)}), 0, api.ErrCorrupt)
		behind := append(plainFrame("one"), s...)
		wantNoOpen(t, fmt.Sprintf("P4.1: %q behind a frame", s), diskOf(t, map[string][]byte{"log000": behind}), 0, api.ErrCorrupt)
	}
}

// A length that is turned into a greater one that may be looks like a torn tail, in the last segment.
func TestTurnedLengthMayTear(t *testing.T) {
	b := plainFrames("one", "two")
	b[9] = 200
	wantTold(t, "P4.1: a greater length", mustOpen(t, diskOf(t, map[string][]byte{"log000": b}), 0), "one 0")
	wantNoOpen(t, "P4.1: a greater length in another one", diskOf(t, map[string][]byte{"log000": b, "log001": {}}), 0, api.ErrCorrupt)
}

func TestOpenWithoutRoom(t *testing.T) {
	b := plainFrames("one", "two")
	d := file.New(25)
	must(t, d.Append("log000", b[:17]))
	wantNoOpen(t, "P4.1: no room for what stands", d, 0, api.ErrFull)
	wantLies(t, "P4.1: no room for what stands", d, "log000=17/0 ")
	d = file.New(26)
	must(t, d.Append("log000", b[:17]))
	wantTold(t, "P4.1: just room for what stands", mustOpen(t, d, 0), "one 0")
	d = file.New(18)
	must(t, d.Append("log000", b))
	wantTold(t, "P4.1: what is whole needs no room", mustOpen(t, d, 0), "one two 0")
}

func TestAdd(t *testing.T) {
	d := file.New(api.MaxFile)
	l := mustOpen(t, d, 5)
	want := ""
	for k, text := range []string{"a", "bc", "\x00", row(10), "a", "a"} {
		wantErr(t, "P4.1: Add", l.Add([]byte(text)), api.OK)
		want += text + " "
		wantTold(t, fmt.Sprintf("P4.1: %d Adds", k+1), l, want+"5")
	}
	if got, _ := d.Read("log005"); !bytes.Equal(got, plainFrames("a", "bc", "\x00", row(10), "a", "a")) {
		t.Errorf("P4.1: the file has %x", got)
	}
	wantLies(t, "P4.1: Add forces nothing", d, "log005=52/0 ")
	wantErr(t, "P4.1: Force", l.Force(), api.OK)
	must(t, l.Add([]byte("z")))
	wantLies(t, "P4.1: Force, and Add", d, "log005=59/52 ")
	wantTold(t, "P4.1: opened anew", mustOpen(t, d, 0), want+"z 5")
}

func TestAddOfNoFrame(t *testing.T) {
	d := file.New(api.MaxFile)
	l := mustOpen(t, d, 999)
	must(t, l.Add([]byte(row(1994))))
	for _, b := range [][]byte{nil, {}, make([]byte, 4001), make([]byte, 65537), make([]byte, 1<<20)} {
		wantErr(t, "P4.1: Add of no frame, ahead of ErrRange and ErrFull", l.Add(b), api.ErrForm)
	}
	wantTold(t, "P4.1: Add of no frame", l, "abc..1994 999")
	wantLies(t, "P4.1: Add of no frame", d, "log999=2000/0 ")
	l = mustOpen(t, d, 0)
	must(t, d.Delete("log999"))
	wantErr(t, "P4.1: Add of the longest", l.Add(make([]byte, 4000)), api.OK)
	wantLies(t, "P4.1: Add of the longest", d, "log999=4006/0 ")
}

func TestNextSegmentBegins(t *testing.T) {
	for size, next := range map[int]bool{7: false, 1998: false, 1999: false, 2000: true, 2001: true, 2002: true, 4006: true} {
		for _, opened := range []bool{false, true} {
			what := fmt.Sprintf("P4.1: Add behind %d bytes, opened anew %v", size, opened)
			d := file.New(api.MaxFile)
			l := mustOpen(t, d, 3)
			must(t, l.Add([]byte(row(size-6))))
			wantLies(t, what+", ahead", d, fmt.Sprintf("log003=%d/0 ", size))
			if opened {
				l = mustOpen(t, d, 0)
			}
			wantErr(t, what, l.Add([]byte("x")), api.OK)
			at, files := 3, fmt.Sprintf("log003=%d/0 ", size+7)
			if next {
				at, files = 4, fmt.Sprintf("log003=%d/%d log004=7/0 ", size, size)
			}
			wantLies(t, what, d, files)
			if l.At() != at || string(bytes.Join(l.All(), nil)) != row(size-6)+"x" {
				t.Errorf("%s: At %d, %d texts", what, l.At(), len(l.All()))
			}
			wantTold(t, what+", and anew", mustOpen(t, d, 3), told(l))
		}
	}
}

func TestManySegments(t *testing.T) {
	d := file.New(api.MaxFile)
	l := mustOpen(t, d, 0)
	for k := range 1500 {
		must(t, l.Add([]byte(fmt.Sprintf("%0494d", k))))
		if l.At() != k/4 {
			t.Fatalf("P4.1: At %d behind %d Adds", l.At(), k+1)
		}
	}
	again := mustOpen(t, d, 0)
	for _, o := range []*Log{l, again} {
		all := o.All()
		if len(all) != 1500 || o.At() != 374 || len(d.Names()) != 375 {
			t.Fatalf("P4.1: %d texts, At %d, %d files", len(all), o.At(), len(d.Names()))
		}
		for k, b := range all {
			if string(b) != fmt.Sprintf("%0494d", k) {
				t.Fatalf("P4.1: the text %d is %q", k, b)
			}
		}
	}
}

func TestAddWithoutRoom(t *testing.T) {
	d := file.New(20)
	l := mustOpen(t, d, 0)
	wantErr(t, "P4.1: Add without room", l.Add([]byte(row(15))), api.ErrFull)
	wantTold(t, "P4.1: Add without room", l, "0")
	wantLies(t, "P4.1: Add without room", d, "")
	must(t, l.Add([]byte("abc")))
	wantErr(t, "P4.1: Add without room", l.Add([]byte("abcdef")), api.ErrFull)
	wantTold(t, "P4.1: Add without room", l, "abc 0")
	wantErr(t, "P4.1: Add with room for it", l.Add([]byte("abcde")), api.OK)
	wantTold(t, "P4.1: Add with room for it", l, "abc abcde 0")

	d = file.New(2010)
	l = mustOpen(t, d, 8)
	must(t, l.Add([]byte(row(1994))))
	wantErr(t, "P4.1: no room in the next segment", l.Add([]byte("abcde")), api.ErrFull)
	wantTold(t, "P4.1: no room in the next segment", l, "abc..1994 8")
	wantErr(t, "P4.1: room in the next segment", l.Add([]byte("abcd")), api.OK)
	wantTold(t, "P4.1: room in the next segment", l, "abc..1994 abcd 9")
	wantLies(t, "P4.1: room in the next segment", d, "log008=2000/2000 log009=10/0 ")
}

func TestNoNextSegment(t *testing.T) {
	d := file.New(api.MaxFile)
	l := mustOpen(t, d, 998)
	must(t, l.Add([]byte("a")))
	wantErr(t, "P4.1: Next", l.Next(), api.OK)
	wantErr(t, "P4.1: Next behind the last one", l.Next(), api.ErrRange)
	wantTold(t, "P4.1: Next behind the last one", l, "a 999")
	must(t, l.Add([]byte(row(1993))))
	wantErr(t, "P4.1: Add to the last one", l.Add([]byte("b")), api.OK)
	wantErr(t, "P4.1: Add behind the last one", l.Add([]byte("c")), api.ErrRange)
	wantErr(t, "P4.1: Next behind the last one", l.Next(), api.ErrRange)
	wantTold(t, "P4.1: behind the last one", l, "a abc..1993 b 999")
	wantLies(t, "P4.1: ErrRange does nothing", d, "log998=7/7 log999=2006/0 ")
	wantErr(t, "P4.1: Force of the last one", l.Force(), api.OK)
	wantLies(t, "P4.1: Force of the last one", d, "log998=7/7 log999=2006/2006 ")

	full := file.New(2005)
	l = mustOpen(t, full, 999)
	must(t, l.Add([]byte(row(1994))))
	wantErr(t, "P4.1: ErrRange, where there is no room either", l.Add([]byte("abc")), api.ErrRange)
}

func TestNext(t *testing.T) {
	d := file.New(api.MaxFile)
	l := mustOpen(t, d, 3)
	wantErr(t, "P4.1: Next without a file", l.Next(), api.OK)
	wantTold(t, "P4.1: Next without a file", l, "4")
	wantLies(t, "P4.1: Next makes no file", d, "")
	must(t, l.Add([]byte("a")), l.Add([]byte("b")))
	wantErr(t, "P4.1: Next", l.Next(), api.OK)
	wantTold(t, "P4.1: Next", l, "a b 5")
	wantLies(t, "P4.1: Next syncs", d, "log004=14/14 ")
	wantErr(t, "P4.1: Next twice", l.Next(), api.OK)
	wantTold(t, "P4.1: Next twice", l, "a b 6")
	must(t, l.Add([]byte("c")))
	wantLies(t, "P4.1: Add behind Next", d, "log004=14/14 log006=7/0 ")
	wantTold(t, "P4.1: Add behind Next", l, "a b c 6")
	wantTold(t, "P4.1: opened anew", mustOpen(t, d, 0), "a b c 6")
}

func TestForce(t *testing.T) {
	d := file.New(api.MaxFile)
	must(t, d.Append("log001", plainFrame("a")))
	l := mustOpen(t, d, 2)
	wantErr(t, "P4.1: Force without a file", l.Force(), api.OK)
	wantLies(t, "P4.1: Force without a file", d, "log001=7/0 ")
	must(t, l.Add([]byte("b")))
	wantErr(t, "P4.1: Force", l.Force(), api.OK)
	wantErr(t, "P4.1: Force twice", l.Force(), api.OK)
	wantLies(t, "P4.1: Force is of the last one", d, "log001=7/0 log002=7/7 ")
	wantTold(t, "P4.1: Force", l, "b 2")
	must(t, l.Next())
	wantErr(t, "P4.1: Force behind Next", l.Force(), api.OK)
	wantLies(t, "P4.1: Force behind Next", d, "log001=7/0 log002=7/7 ")

	l = mustOpen(t, d, 0)
	wantErr(t, "P4.1: Force of what was found", l.Force(), api.OK)
	wantLies(t, "P4.1: Force of what was found", d, "log001=7/0 log002=7/7 ")
}

func TestForget(t *testing.T) {
	for n, want := range map[int]string{
		math.MinInt: "log000 log002 log003 log005 log999 state", -1: "log000 log002 log003 log005 log999 state", 0: "log000 log002 log003 log005 log999 state",
		1: "log002 log003 log005 log999 state", 2: "log002 log003 log005 log999 state", 3: "log003 log005 log999 state", 4: "log005 log999 state", 5: "log005 log999 state",
		6: "log999 state", 999: "log999 state", 1000: "state", 1001: "state", 1 << 40: "state", math.MaxInt: "state",
	} {
		what := fmt.Sprintf("P4.1: Forget(%d)", n)
		d := diskOf(t, map[string][]byte{
			"log000": plainFrame("a"), "log002": plainFrame("b"), "log003": plainFrame("c"), "log005": plainFrame("d"), "log999": plainFrame("e"), "state": []byte("s"),
		})
		l := mustOpen(t, d, 3)
		wantErr(t, what, l.Forget(n), api.OK)
		if got := strings.Join(d.Names(), " "); got != want {
			t.Errorf("%s: %s, want %s", what, got, want)
		}
		wantTold(t, what+": what was added", l, "c d e 999")
		wantErr(t, what+" anew", l.Forget(n), api.OK)
	}
	l := mustOpen(t, file.New(0), 3)
	wantErr(t, "P4.1: Forget without files", l.Forget(1000), api.OK)
	wantTold(t, "P4.1: Forget without files", l, "3")
}

// A last segment that was forgotten is empty, so that it is written from its beginning.
func TestForgottenLastSegment(t *testing.T) {
	d := file.New(api.MaxFile)
	l := mustOpen(t, d, 0)
	must(t, l.Add([]byte(row(1994))), l.Forget(1))
	wantTold(t, "P4.1: Forget of the last one", l, "abc..1994 0")
	wantErr(t, "P4.1: Force of a forgotten one", l.Force(), api.OK)
	must(t, l.Add([]byte("a")))
	wantTold(t, "P4.1: Add to a forgotten one", l, "abc..1994 a 0")
	wantLies(t, "P4.1: Add to a forgotten one", d, "log000=7/0 ")
	wantTold(t, "P4.1: opened anew", mustOpen(t, d, 0), "a 0")
	must(t, l.Forget(1))
	wantErr(t, "P4.1: Next of a forgotten one", l.Next(), api.OK)
	wantLies(t, "P4.1: Next of a forgotten one", d, "")
	if l.At() != 1 {
		t.Errorf("P4.1: At %d", l.At())
	}
}

// spoil writes into a list and its spare room.
func spoil(b []byte) {
	b = b[:cap(b)]
	for k := range b {
		b[k] = '#'
	}
}

func TestListsAreNotShared(t *testing.T) {
	long := []byte("own-----")
	if f := Frame(long[:3]); string(f) != string(plainFrame("own")) || string(long) != "own-----" {
		t.Errorf("P0.3: Frame: %q, and %q was handed in", f, long)
	}
	f := Frame(long[:3])
	spoil(Frame(long[:3]))
	long[0] = 'x'
	if string(f) != string(plainFrame("own")) {
		t.Errorf("P0.3: Frame: %q", f)
	}

	f = append(f, "behind"...)
	was := string(f)
	one, _, _ := Cut(f)
	two, _, _ := Cut(f)
	spoil(one)
	if string(f) != was || string(two) != "own" {
		t.Errorf("P0.3: Cut: %q, and %q was handed in", two, f)
	}
	two, _, _ = Cut(f)
	spoil(f)
	if string(two) != "own" {
		t.Errorf("P0.3: Cut: %q", two)
	}
}

func TestLogKeepsItsOwn(t *testing.T) {
	long := []byte("one-----")
	d := file.New(api.MaxFile)
	l := mustOpen(t, d, 0)
	must(t, l.Add(long[:3]), l.Add(long[:4]))
	if string(long) != "one-----" {
		t.Errorf("P0.3: %q was handed in", long)
	}
	spoil(long)
	again := mustOpen(t, d, 0)
	for _, o := range []*Log{l, again} {
		other := o.All()
		for _, b := range o.All() {
			spoil(b)
		}
		wantTold(t, "P0.3: what was handed in, or told, was written into", o, "one one- 0")
		if string(other[0]) != "one" || string(other[1]) != "one-" {
			t.Errorf("P0.3: another answer was turned: %q", other)
		}
		all := o.All()
		spoil(all[0])
		if string(all[1]) != "one-" {
			t.Errorf("P0.3: %q: two texts of one answer share memory", all[1])
		}
		all[0], all[1] = nil, nil
		_ = append(all[:0], []byte("x"), []byte("y"), []byte("z"))
		wantTold(t, "P0.3: the answer's list was written into", o, "one one- 0")
	}
	must(t, l.Add([]byte("two")))
	wantTold(t, "P0.5: another log on the disk", again, "one one- 0")
	wantTold(t, "P4.1: Add", l, "one one- two 0")
	wantTold(t, "P4.1: opened anew", mustOpen(t, d, 0), "one one- two 0")
}

func TestNil(t *testing.T) {
	var l *Log
	for _, b := range [][]byte{nil, []byte("a"), make([]byte, 4001)} {
		wantErr(t, "P4.1: nil: Add", l.Add(b), api.ErrDown)
	}
	for _, n := range []int{math.MinInt, -1, 0, 1, 1000, math.MaxInt} {
		wantErr(t, "P4.1: nil: Forget", l.Forget(n), api.ErrDown)
	}
	wantErr(t, "P4.1: nil: Force", l.Force(), api.ErrDown)
	wantErr(t, "P4.1: nil: Next", l.Next(), api.ErrDown)
	if all, at := l.All(), l.At(); all != nil || at != 0 {
		t.Errorf("P4.1: nil: All %q, At %d", all, at)
	}
}

// A Log that Open did not make has no disk; nothing of it panics.
func TestZeroLog(t *testing.T) {
	l := new(Log)
	wantErr(t, "P0.1: Add", l.Add([]byte("a")), api.ErrDown)
	wantErr(t, "P0.1: Force", l.Force(), api.ErrDown)
	wantErr(t, "P0.1: Next", l.Next(), api.ErrDown)
	wantErr(t, "P0.1: Forget", l.Forget(5), api.ErrDown)
	wantTold(t, "P0.1", l, "0")
}

// Very many short frames in one file, and very many Adds, must end soon, too.
func TestManyFrames(t *testing.T) {
	short := plainFrame("x")
	d := diskOf(t, map[string][]byte{"log000": bytes.Repeat(short, 1<<20/7)})
	l := mustOpen(t, d, 0)
	if n := len(l.All()); n != 1<<20/7 {
		t.Errorf("P4.1: %d texts", n)
	}
	d = file.New(api.MaxFile)
	l = mustOpen(t, d, 0)
	for range 1 << 20 / 7 {
		must(t, l.Add([]byte("x")))
	}
	if n := len(mustOpen(t, d, 0).All()); n != 1<<20/7 || len(l.All()) != n {
		t.Errorf("P4.1: %d texts, %d opened anew", len(l.All()), n)
	}
}

// Wherever the disk falls, a front of what was added stands, with all that was forced; and the log goes on behind it.
func TestFalls(t *testing.T) {
	d := file.New(api.MaxFile)
	l := mustOpen(t, d, 0)
	var added []string
	forced := 0
	for k, n := range []int{3, 5, 700, 1, 1300, 9, 2, 4000, 1, 1, 1990, 6, 1} {
		at := l.At()
		must(t, l.Add([]byte(row(n))))
		added = append(added, row(n))
		if l.At() > at {
			forced = k
		}
		if k == 1 || k == 9 {
			must(t, l.Force())
			forced = k + 1
		}
		if k == 11 {
			must(t, l.Next())
			forced = k + 1
		}
		for n := range 4100 {
			if n > 60 && n%101 != 0 {
				continue
			}
			wantFront(t, fmt.Sprintf("P4.1: %d added, Fall(%d)", k+1, n), d.Fall(n), added, forced)
		}
	}
}

// wantFront: a log stands on a disk, with at least so many of what was added, in order; and it goes on.
func wantFront(t *testing.T, what string, d *file.Disk, added []string, forced int) {
	t.Helper()
	l, err := Open(d, 0)
	if err != api.OK {
		t.Fatalf("%s: error %d", what, err)
	}
	all := l.All()
	if len(all) < forced || len(all) > len(added) {
		t.Fatalf("%s: %d texts, %d were forced", what, len(all), forced)
	}
	for k, b := range all {
		if string(b) != added[k] {
			t.Fatalf("%s: the text %d is %q", what, k, b)
		}
	}
	must(t, l.Add([]byte("more")), l.Force())
	again, err := Open(d.Fall(0), 0)
	if err != api.OK || told(again) != told(l) {
		t.Fatalf("%s: written on: error %d", what, err)
	}
}

func FuzzCut(f *testing.F) {
	f.Add([]byte("abc"), []byte("behind"))
	f.Add([]byte{}, []byte{1, 0, 0, 0, 0, 0, 0})
	f.Add([]byte{0}, plainFrame("x"))
	f.Fuzz(func(t *testing.T, text, b []byte) {
		if len(text) >= 1 && len(text) <= 4000 {
			wantCut(t, "P4: a frame", append(Frame(text), b...), string(text), len(text)+6)
		}
		got, n, err := Cut(b)
		switch {
		case err == api.OK && bytes.Equal(plainFrame(string(got)), b[:n]):
		case err != api.OK && got == nil && n == 0:
			if whole, _ := Open(diskOf(t, map[string][]byte{"log000": b}), 0); (whole == nil) != (err == api.ErrCorrupt) {
				t.Errorf("P4.1: Open of %x, of which Cut says %d", b, err)
			}
		default:
			t.Errorf("P4: Cut of %x: %x, %d, error %d", b, got, n, err)
		}
	})
}

// plainSegment is a segment of plainLog: its texts, how many bytes of it are sure; is: it has a file; named: that stays, even without bytes.
type plainSegment struct {
	texts     []string
	sure      int
	is, named bool
}

func (p *plainSegment) size() int {
	return len(plainFrames(p.texts...))
}

// plainLog is a log by another way: segments as lists of texts, without a disk.
type plainLog struct {
	room  int
	segs  [1000]plainSegment
	at    int
	added []string
}

func (p *plainLog) used() int {
	n := 0
	for k := range p.segs {
		n += p.segs[k].size()
	}
	return n
}

func (p *plainLog) force() {
	s := &p.segs[p.at]
	s.sure, s.named = s.size(), s.is
}

func (p *plainLog) add(text string) api.Errno {
	to := p.at
	if len(text) == 0 || len(text) > 4000 {
		return api.ErrForm
	}
	if p.segs[to].size() >= 2000 {
		to++
		if to == 1000 {
			return api.ErrRange
		}
		p.force()
	}
	if p.used()+6+len(text) > p.room {
		return api.ErrFull
	}
	p.at = to
	p.segs[to].texts, p.segs[to].is = append(p.segs[to].texts, text), true
	p.added = append(p.added, text)
	return api.OK
}

func (p *plainLog) next() api.Errno {
	if p.at == 999 {
		return api.ErrRange
	}
	p.force()
	p.at++
	return api.OK
}

func (p *plainLog) forget(n int) {
	for k := range min(max(n, 0), 1000) {
		p.segs[k] = plainSegment{}
	}
}

// open is the log as it stands, opened anew.
func (p *plainLog) open(from int) {
	p.at, p.added = from, nil
	for k := from; k < 1000; k++ {
		if p.segs[k].is {
			p.at = k
		}
		p.added = append(p.added, p.segs[k].texts...)
	}
}

// fall leaves of the last segment the whole frames in what stays. The elder ones were synced. False: there is no room to write anew what stands.
func (p *plainLog) fall(n int) bool {
	s := &p.segs[p.at]
	elder := p.used() - s.size()
	stays := s.sure + max(n, 0)%(s.size()-s.sure+1)
	s.is = s.named || stays > 0
	for s.size() > stays {
		s.texts = s.texts[:len(s.texts)-1]
	}
	s.sure, s.named = s.size(), s.is
	return stays == s.size() || elder+stays+s.size() <= p.room
}

func (p *plainLog) told() string {
	return strings.Join(p.added, " ") + " " + fmt.Sprint(p.at)
}

func (p *plainLog) lies() string {
	s := ""
	for k := range p.segs {
		if p.segs[k].is {
			s += fmt.Sprintf("log%03d=%d/%d ", k, p.segs[k].size(), p.segs[k].sure)
		}
	}
	return s
}

// FuzzAgainstPlain does the same steps to both kinds of log.
func FuzzAgainstPlain(f *testing.F) {
	seed := uint64(3)
	for n := range 100 {
		steps := make([]byte, n)
		for k := range steps {
			seed = seed*6364136223846793005 + 1442695040888963407
			steps[k] = byte(seed >> 56)
		}
		f.Add(steps)
	}
	f.Fuzz(func(t *testing.T, steps []byte) {
		from := 0
		if len(steps) > 0 && steps[0] >= 192 {
			from = 995
		}
		d, p := file.New(30000), &plainLog{room: 30000, at: from}
		l := mustOpen(t, d, from)
		for k := 0; k+1 < len(steps); k += 2 {
			what := fmt.Sprintf("P4.1: step %d, %x", k/2, steps[k:k+2])
			x := int(steps[k+1])
			got, want := api.OK, api.OK
			switch steps[k] % 16 {
			case 0:
				got = l.Force()
				p.force()
			case 1:
				got, want = l.Next(), p.next()
			case 2:
				got = l.Forget(p.at - 2 + x%4)
				p.forget(p.at - 2 + x%4)
			case 3, 4, 5:
				d = d.Fall(x * 9)
				if !p.fall(x * 9) {
					wantNoOpen(t, what, d, from, api.ErrFull)
					return
				}
				l = mustOpen(t, d, from)
				p.open(from)
			case 6, 7:
				text := row(x * 16)
				got, want = l.Add([]byte(text)), p.add(text)
			default:
				text := row(x)
				got, want = l.Add([]byte(text)), p.add(text)
			}
			wantErr(t, what, got, want)
			if got := string(bytes.Join(l.All(), []byte(" "))) + " " + fmt.Sprint(l.At()); got != p.told() {
				t.Fatalf("%s: %q, want %q", what, got, p.told())
			}
			wantLies(t, what, d, p.lies())
		}
	})
}
