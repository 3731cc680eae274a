package disk_test

import (
	"math"
	"slices"
	"strconv"
	"strings"
	"testing"

	"tessera/api"
	"tessera/disk"
)

var allVerbs = []string{"append", "write", "trunc", "rename", "remove"}

// P5.1, P5.2, P5.3: the chapter's examples.
func TestExamples(t *testing.T) {
	d := disk.New(9)
	for _, one := range []struct {
		bytes string
		e     api.Errno
	}{{"xyz", api.OK}, {"123456", api.OK}, {"7", api.ErrFull}} {
		if e := d.Append("a", one.bytes); e != one.e {
			t.Errorf("Append(a, %q): %v, not %v", one.bytes, e, one.e)
		}
	}
	if d.Used() != 9 || d.Loose() != 2 {
		t.Errorf("used %d, loose %d", d.Used(), d.Loose())
	}
	crashed(t, d, 1, 2)
	reads(t, d, "a", "xyz12")
	if e := d.Trunc("a", 9); e != api.ErrArg {
		t.Errorf("Trunc(a, 9) of five bytes: %v", e)
	}
	if e := d.Rename("x", "y"); e != api.ErrNone {
		t.Errorf("Rename without x: %v", e)
	}
	if e := d.Crash(1, 0); e != api.ErrArg {
		t.Errorf("Crash(1, 0) with nothing loose: %v", e)
	}
	d, _ = made(t, 100, writes("b", "abc"))
	d.Sync()
	d.Write("b", "d")
	crashed(t, d, 0, 0)
	reads(t, d, "b", "abc")
	d.Write("c", "")
	crashed(t, d, 0, 5)
	if names := d.Names(); !slices.Equal(names, []string{"b"}) {
		t.Errorf("Names: %q", names)
	}
}

func crashed(t *testing.T, d *disk.Disk, keep, torn int) {
	t.Helper()
	if e := d.Crash(keep, torn); e != api.OK {
		t.Fatalf("Crash(%d, %d): %v", keep, torn, e)
	}
}

func reads(t *testing.T, d *disk.Disk, name, bytes string) {
	t.Helper()
	if got, e := d.Read(name); got != bytes || e != api.OK {
		t.Fatalf("Read(%q): %q, %v, not %q", name, got, e, bytes)
	}
}

// P5.1: a new disk has no files and nothing loose; a room below 0 is as one of 0.
func TestRoom(t *testing.T) {
	for _, room := range []int{math.MinInt, -1, 0, 1, 5, math.MaxInt} {
		d := disk.New(room)
		if d == nil || len(d.Names()) != 0 || d.Used() != 0 || d.Loose() != 0 {
			t.Fatalf("New(%d) is not empty", room)
		}
		if e := d.Write("empty", ""); e != api.OK {
			t.Fatalf("New(%d): Write of nothing: %v", room, e)
		}
		for i := range 7 {
			want := api.OK
			if i >= room {
				want = api.ErrFull
			}
			if e := d.Append("a", "x"); e != want {
				t.Fatalf("New(%d): byte %d: %v, not %v", room, i+1, e, want)
			}
		}
	}
}

// P5.1: the room bounds what all files have together, by Append as by Write; what is freed can be used again.
func TestFull(t *testing.T) {
	for _, one := range []struct {
		why string
		a   act
		e   api.Errno
	}{
		{"just full by an Append", appends("a", "12"), api.OK},
		{"one more by an Append", appends("a", "123"), api.ErrFull},
		{"just full by another file", appends("c", "12"), api.OK},
		{"one more by another file", appends("c", "123"), api.ErrFull},
		{"a Write counts without what the file had", writes("a", "12345"), api.OK},
		{"one more by a Write", writes("a", "123456"), api.ErrFull},
		{"a Write of a new file", writes("c", "12"), api.OK},
		{"a Write of a new file, one more", writes("c", "123"), api.ErrFull},
		{"a shorter Write", writes("a", "1"), api.OK},
	} {
		d, w := made(t, 10, appends("a", "abc"), writes("b", "defgh"))
		if e := one.a.on(d); e != one.e || e != w.do(one.a) {
			t.Errorf("%s: %v, not %v", one.why, e, one.e)
		}
		agree(t, d, w)
	}
	for _, freed := range []act{truncs("a", 0), removes("a"), renames("b", "a"), writes("a", "")} {
		d, w := made(t, 6, appends("a", "abc"), writes("b", "def"))
		if e := d.Append("c", "x"); e != api.ErrFull {
			t.Errorf("a full disk: %v", e)
		}
		do(t, d, w, freed, appends("c", "xyz"))
		if e := d.Append("c", "x"); e != api.ErrFull {
			t.Errorf("a disk that is full again behind %v: %v", freed, e)
		}
		agree(t, d, w)
	}
}

// P5.1, P5.5: ErrFull leaves all as it was, and is no loose thing.
func TestFullChangesNothing(t *testing.T) {
	d, w := made(t, 10, appends("a", "abc"))
	d.Sync()
	w.sync()
	do(t, d, w, writes("b", "defgh"))
	for _, a := range []act{appends("a", "123"), appends("c", "123"), writes("a", "123456"), writes("c", "123"), writes("c", strings.Repeat("x", 1<<20))} {
		if e := a.on(d); e != api.ErrFull {
			t.Fatalf("%v: %v", a, e)
		}
		agree(t, d, w)
	}
	crashed(t, d, 1, 5)
	w.crash(1, 5)
	agree(t, d, w)
}

// P5.1: names of 1 to MaxName bytes, any; each name is another file.
func TestNames(t *testing.T) {
	long := strings.Repeat("n", api.MaxName)
	names := []string{"a", "A", "\x00", "\xff", "\n", " ", "/", "a/b", ".", "..", "a\x00", "a\x00b", "\u00e4", long, long[1:], "m" + long[1:], strings.Repeat("\xff", api.MaxName)}
	d := disk.New(1000)
	for i, name := range names {
		if e := d.Append(name, strconv.Itoa(i)); e != api.OK {
			t.Fatalf("Append(%q): %v", name, e)
		}
	}
	for i, name := range names {
		reads(t, d, name, strconv.Itoa(i))
		if d.Trunc(name, 1) != api.OK || d.Write(name, "w") != api.OK || d.Rename(name, name) != api.OK {
			t.Errorf("a call answers an error of the name %q", name)
		}
	}
	slices.Sort(names)
	if got := d.Names(); !slices.Equal(got, names) {
		t.Errorf("Names: %q, not %q", got, names)
	}
	for _, name := range names {
		if e := d.Remove(name); e != api.OK {
			t.Errorf("Remove(%q): %v", name, e)
		}
	}
	if len(d.Names()) != 0 || d.Used() != 0 {
		t.Errorf("files are left: %q", d.Names())
	}
}

// badNames are names that no file may have.
func badNames() []string {
	return []string{"", strings.Repeat("n", api.MaxName+1), strings.Repeat("\x00", api.MaxName+1), strings.Repeat("n", 1<<20)}
}

// P5.1, P5.2, P5.5: a name that may not be is ErrArg in every call, ahead of ErrNone and
// ErrFull, at both places of Rename; it changes nothing and is no loose thing.
func TestBadNames(t *testing.T) {
	for _, bad := range badNames() {
		d, w := made(t, 3, appends("a", "abc"))
		for _, verb := range allVerbs {
			for _, a := range []act{{verb: verb, name: bad, to: "b", bytes: "more than the room"}, {verb: verb, name: bad, to: bad, n: -1}} {
				if e := a.on(d); e != api.ErrArg {
					t.Errorf("%v: %v", a, e)
				}
			}
		}
		for _, from := range []string{"a", "none"} {
			if e := d.Rename(from, bad); e != api.ErrArg {
				t.Errorf("Rename(%q, %q): %v", from, bad, e)
			}
		}
		if s, e := d.Read(bad); s != "" || e != api.ErrArg {
			t.Errorf("Read(%q): %q, %v", bad, s, e)
		}
		agree(t, d, w)
	}
}

// P5.1, P5.2, P5.5: a file that is not there is ErrNone, ahead of ErrArg of a number; it
// is no loose thing. A file that was removed, or renamed away, is not there.
func TestNone(t *testing.T) {
	d, w := made(t, 9, appends("a", "abc"), writes("gone", "x"), removes("gone"), writes("old", "y"), renames("old", "new"))
	for _, name := range []string{"none", "gone", "old", "A", "a ", "aa", "\x00"} {
		for _, n := range []int{math.MinInt, -1, 0, 1, math.MaxInt} {
			if e := d.Trunc(name, n); e != api.ErrNone {
				t.Errorf("Trunc(%q, %d): %v", name, n, e)
			}
		}
		for _, to := range []string{"a", "other", name} {
			if e := d.Rename(name, to); e != api.ErrNone {
				t.Errorf("Rename(%q, %q): %v", name, to, e)
			}
		}
		if e := d.Remove(name); e != api.ErrNone {
			t.Errorf("Remove(%q): %v", name, e)
		}
		if s, e := d.Read(name); s != "" || e != api.ErrNone {
			t.Errorf("Read(%q): %q, %v", name, s, e)
		}
		agree(t, d, w)
	}
}

// P5.1: Append and Write of no bytes make a file, or leave it, or empty it; each is a loose thing.
func TestNoBytes(t *testing.T) {
	d, w := made(t, 3, appends("a", ""), writes("b", ""))
	reads(t, d, "a", "")
	reads(t, d, "b", "")
	do(t, d, w, appends("a", "abc"), appends("a", ""), appends("a", ""))
	reads(t, d, "a", "abc")
	do(t, d, w, writes("a", ""))
	reads(t, d, "a", "")
	agree(t, d, w)
	if d.Loose() != 6 || len(d.Names()) != 2 {
		t.Errorf("loose %d, names %q", d.Loose(), d.Names())
	}
}

// P5.1: bytes are any, and stand in the order in which they came.
func TestBytes(t *testing.T) {
	all := ""
	for i := range 256 {
		all += string([]byte{byte(i)})
	}
	d, w := made(t, 3000, appends("a", all), appends("a", "\x00\xff"), writes("b", all+all), appends("b", "z"), writes("b", all))
	reads(t, d, "a", all+"\x00\xff")
	reads(t, d, "b", all)
	agree(t, d, w)
}

// P5.1: at most MaxFiles files; a file that is there is written to as before.
func TestMaxFiles(t *testing.T) {
	d := disk.New(1 << 20)
	for i := range api.MaxFiles {
		put := d.Append
		if i%2 == 0 {
			put = d.Write
		}
		if e := put(strconv.Itoa(i), "xy"); e != api.OK {
			t.Fatalf("file %d: %v", i, e)
		}
	}
	full := func() {
		t.Helper()
		loose := d.Loose()
		for _, bytes := range []string{"", "x"} {
			if d.Append("more", bytes) != api.ErrFull || d.Write("more", bytes) != api.ErrFull {
				t.Fatalf("a file more than MaxFiles")
			}
		}
		if len(d.Names()) != api.MaxFiles || d.Loose() != loose {
			t.Fatalf("%d files, %d loose, not %d", len(d.Names()), d.Loose(), loose)
		}
	}
	full()
	if d.Append("0", "z") != api.OK || d.Write("1", "z") != api.OK || d.Trunc("2", 1) != api.OK || d.Rename("3", "new") != api.OK || d.Rename("new", "3") != api.OK {
		t.Errorf("a disk with MaxFiles files does not let go on with these")
	}
	full()
	crashed(t, d, d.Loose(), 0)
	full()
	if d.Remove("7") != api.OK || d.Append("8", "") != api.OK || d.Write("another", "") != api.OK {
		t.Errorf("a file in the place of one that was removed")
	}
	full()
	if d.Rename("8", "9") != api.OK || d.Append("8", "") != api.OK {
		t.Errorf("a file in the place of one that was renamed over")
	}
	full()
}

// P5.1: Trunc leaves the first n bytes; below 0 and above the length is ErrArg.
func TestTrunc(t *testing.T) {
	for n := -3; n <= 8; n++ {
		d, w := made(t, 9, appends("a", "abcde"), appends("b", "fg"))
		a, want := truncs("a", n), api.OK
		if n < 0 || n > 5 {
			want = api.ErrArg
		}
		if e := a.on(d); e != want {
			t.Fatalf("Trunc(a, %d): %v, not %v", n, e, want)
		}
		w.do(a)
		agree(t, d, w)
		if want == api.OK {
			reads(t, d, "a", "abcde"[:n])
			do(t, d, w, appends("a", "xy"))
			reads(t, d, "a", "abcde"[:n]+"xy")
			agree(t, d, w)
		}
	}
	d, w := made(t, 9, appends("empty", ""), truncs("empty", 0))
	for _, n := range []int{math.MinInt, -1, 1, math.MaxInt} {
		if e := d.Trunc("empty", n); e != api.ErrArg {
			t.Errorf("Trunc(empty, %d): %v", n, e)
		}
	}
	agree(t, d, w)
}

// P5.1: Rename to its own name, a new one, another file's.
func TestRename(t *testing.T) {
	for _, to := range []string{"a", "new", "b", "c", "empty"} {
		d, w := made(t, 20, appends("a", "abcde"), appends("b", "fg"), writes("c", "longer than a"), writes("empty", ""))
		do(t, d, w, renames("a", to))
		agree(t, d, w)
		reads(t, d, to, "abcde")
		if _, e := d.Read("a"); to != "a" && e != api.ErrNone {
			t.Errorf("Rename(a, %s): a is there: %v", to, e)
		}
		if d.Loose() != 5 {
			t.Errorf("Rename(a, %s): %d loose", to, d.Loose())
		}
		do(t, d, w, removes(to))
		agree(t, d, w)
	}
}

// P5.1: a file that was removed is not there, and can be written again, without its bytes.
func TestRemove(t *testing.T) {
	for _, again := range []act{appends("a", "x"), writes("a", "x")} {
		d, w := made(t, 9, appends("a", "abcde"), appends("b", "fg"), removes("a"))
		agree(t, d, w)
		if e := d.Remove("a"); e != api.ErrNone {
			t.Errorf("Remove twice: %v", e)
		}
		do(t, d, w, again)
		reads(t, d, "a", "x")
		agree(t, d, w)
	}
}

// P5.2: Names is new memory, rising; nothing that is done to the answer is seen in the disk.
func TestNamesAnswer(t *testing.T) {
	d, _ := made(t, 9, appends("b", "1"), appends("a", "2"), appends("c", "3"))
	names := d.Names()
	names[0], names[2] = "x", "y"
	_ = append(names[:1], "z", "z", "z", "z")
	if got := d.Names(); !slices.Equal(got, []string{"a", "b", "c"}) {
		t.Errorf("Names: %q", got)
	}
}

// P0.1: a disk that is not there, or that New did not make, answers ErrNil, or nothing,
// ahead of all other errors.
func TestNil(t *testing.T) {
	for _, d := range []*disk.Disk{nil, {}} {
		for _, name := range append(badNames(), "a") {
			for _, verb := range allVerbs {
				for _, to := range append(badNames(), "a") {
					a := act{verb: verb, name: name, to: to, bytes: "x", n: -1}
					if e := a.on(d); e != api.ErrNil {
						t.Errorf("%v: %v", a, e)
					}
				}
			}
			if s, e := d.Read(name); s != "" || e != api.ErrNil {
				t.Errorf("Read: %q, %v", s, e)
			}
		}
		for _, n := range []int{math.MinInt, -1, 0, 1, math.MaxInt} {
			if d.Crash(n, 0) != api.ErrNil || d.Crash(0, n) != api.ErrNil {
				t.Errorf("Crash by %d is not ErrNil", n)
			}
		}
		if e := d.Sync(); e != api.ErrNil {
			t.Errorf("Sync: %v", e)
		}
		if d.Names() != nil || d.Used() != 0 || d.Loose() != 0 || d.Copy() != nil {
			t.Errorf("a disk that is not there has something")
		}
		for _, other := range []*disk.Disk{nil, {}, disk.New(0)} {
			if disk.Same(d, other) || disk.Same(other, d) {
				t.Errorf("a disk that is not there is the same as one")
			}
		}
	}
}
