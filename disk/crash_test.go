package disk_test

import (
	"math"
	"slices"
	"testing"

	"tessera/api"
	"tessera/disk"
)

// P5.2: Sync makes all fast, and is allowed with nothing loose.
func TestSync(t *testing.T) {
	d, w := made(t, 50)
	for _, acts := range [][]act{
		{},
		{appends("a", "abc"), writes("b", "de")},
		{truncs("a", 1)},
		{renames("a", "c")},
		{removes("b")},
		{appends("c", ""), writes("d", "")},
	} {
		do(t, d, w, acts...)
		if d.Loose() != len(acts) {
			t.Fatalf("%v: %d loose", acts, d.Loose())
		}
		for range 2 {
			if e := d.Sync(); e != api.OK || d.Loose() != 0 {
				t.Fatalf("Sync: %v, %d loose", e, d.Loose())
			}
			w.sync()
			agree(t, d, w)
		}
		crashed(t, d, 0, 9)
		agree(t, d, w)
	}
}

// P5.3: what is left by each keep and torn, by what the next thing is.
func TestCrash(t *testing.T) {
	done := func(acts ...act) []act { return acts }
	for _, one := range []struct {
		why        string
		acts       []act // behind a Sync with a of abcde, b of fg
		keep, torn int
		left       []entry
	}{
		{"nothing loose", done(), 0, 0, []entry{{"a", "abcde"}, {"b", "fg"}}},
		{"nothing loose, torn", done(), 0, 9, []entry{{"a", "abcde"}, {"b", "fg"}}},
		{"an Append, not torn", done(appends("a", "xyz")), 0, 0, []entry{{"a", "abcde"}, {"b", "fg"}}},
		{"an Append, one byte", done(appends("a", "xyz")), 0, 1, []entry{{"a", "abcdex"}, {"b", "fg"}}},
		{"an Append, within", done(appends("a", "xyz")), 0, 2, []entry{{"a", "abcdexy"}, {"b", "fg"}}},
		{"an Append, just all", done(appends("a", "xyz")), 0, 3, []entry{{"a", "abcdexyz"}, {"b", "fg"}}},
		{"an Append, more", done(appends("a", "xyz")), 0, 4, []entry{{"a", "abcdexyz"}, {"b", "fg"}}},
		{"an Append, far more", done(appends("a", "xyz")), 0, math.MaxInt, []entry{{"a", "abcdexyz"}, {"b", "fg"}}},
		{"an Append that is kept", done(appends("a", "xyz")), 1, 0, []entry{{"a", "abcdexyz"}, {"b", "fg"}}},
		{"an Append that is kept, none to be torn", done(appends("a", "xyz")), 1, 1, []entry{{"a", "abcdexyz"}, {"b", "fg"}}},
		{"an Append of a new file, within", done(appends("c", "xyz")), 0, 1, []entry{{"a", "abcde"}, {"b", "fg"}, {"c", "x"}}},
		{"an Append of no bytes", done(appends("c", "")), 0, 5, []entry{{"a", "abcde"}, {"b", "fg"}}},
		{"an Append of no bytes that is kept", done(appends("c", "")), 1, 0, []entry{{"a", "abcde"}, {"b", "fg"}, {"c", ""}}},
		{"a Write, not torn", done(writes("a", "xyz")), 0, 0, []entry{{"a", "abcde"}, {"b", "fg"}}},
		{"a Write, within", done(writes("a", "xyz")), 0, 2, []entry{{"a", "xy"}, {"b", "fg"}}},
		{"a Write, just all", done(writes("a", "xyz")), 0, 3, []entry{{"a", "xyz"}, {"b", "fg"}}},
		{"a Write, more", done(writes("a", "xyz")), 0, 4, []entry{{"a", "xyz"}, {"b", "fg"}}},
		{"a Write of no bytes", done(writes("a", "")), 0, 5, []entry{{"a", "abcde"}, {"b", "fg"}}},
		{"a Write of no bytes that is kept", done(writes("a", "")), 1, 5, []entry{{"a", ""}, {"b", "fg"}}},
		{"a Trunc", done(truncs("a", 2)), 0, 5, []entry{{"a", "abcde"}, {"b", "fg"}}},
		{"a Trunc that is kept", done(truncs("a", 2)), 1, 5, []entry{{"a", "ab"}, {"b", "fg"}}},
		{"a Rename", done(renames("a", "b")), 0, 5, []entry{{"a", "abcde"}, {"b", "fg"}}},
		{"a Rename that is kept", done(renames("a", "b")), 1, 5, []entry{{"b", "abcde"}}},
		{"a Remove", done(removes("a")), 0, 5, []entry{{"a", "abcde"}, {"b", "fg"}}},
		{"a Remove that is kept", done(removes("a")), 1, 5, []entry{{"b", "fg"}}},
		{"nothing behind the torn one", done(appends("a", "xyz"), appends("b", "h"), writes("c", "i")), 0, 2, []entry{{"a", "abcdexy"}, {"b", "fg"}}},
		{"nothing behind a torn one that is whole", done(appends("a", "xyz"), appends("a", "h")), 0, 4, []entry{{"a", "abcdexyz"}, {"b", "fg"}}},
		{"nothing behind one that cannot be torn", done(removes("b"), appends("a", "h")), 0, 4, []entry{{"a", "abcde"}, {"b", "fg"}}},
		{"the next one tears, not the one behind it", done(truncs("b", 0), writes("c", ""), appends("a", "h")), 1, 4, []entry{{"a", "abcde"}, {"b", ""}}},
		{"a file that was removed and written again", done(removes("a"), appends("a", "xyz"), appends("a", "w")), 1, 2, []entry{{"a", "xy"}, {"b", "fg"}}},
		{"a file that came by a Rename", done(renames("b", "a"), appends("a", "xyz")), 1, 2, []entry{{"a", "fgxy"}}},
		{"all of several", done(renames("b", "a"), appends("a", "xyz"), truncs("a", 3)), 3, 9, []entry{{"a", "fgx"}}},
	} {
		d, w := made(t, 99, appends("a", "abcde"), writes("b", "fg"))
		d.Sync()
		w.sync()
		do(t, d, w, one.acts...)
		crashed(t, d, one.keep, one.torn)
		if got := told(t, d); !slices.Equal(got, one.left) {
			t.Errorf("%s: %q, not %q", one.why, got, one.left)
		}
		if d.Loose() != 0 || d.Used() != sum(one.left) {
			t.Errorf("%s: %d loose, %d used", one.why, d.Loose(), d.Used())
		}
	}
}

// P5.3: a keep below 0 or above Loose, a torn below 0, is ErrArg, and changes nothing.
func TestCrashArguments(t *testing.T) {
	for loose := range 3 {
		d, w := made(t, 9, []act{appends("a", "abc"), appends("a", "de")}[:loose]...)
		for _, one := range [][2]int{{-1, 0}, {-1, 1}, {math.MinInt, 0}, {loose + 1, 0}, {loose + 1, 1}, {math.MaxInt, 0}, {0, -1}, {loose, -1}, {0, math.MinInt}, {-1, -1}, {loose + 1, -1}} {
			if e := d.Crash(one[0], one[1]); e != api.ErrArg {
				t.Errorf("Crash(%d, %d) with %d loose: %v", one[0], one[1], loose, e)
			}
			agree(t, d, w)
		}
		crashed(t, d, loose, 0)
	}
}

// P5.3: what a crash has left is fast: a crash behind it loses nothing of it.
func TestCrashTwice(t *testing.T) {
	d, w := made(t, 20, appends("a", "abc"), appends("a", "def"), writes("b", "gh"), removes("a"))
	crashed(t, d, 1, 2)
	w.crash(1, 2)
	for range 3 {
		crashed(t, d, 0, 0)
		agree(t, d, w)
		reads(t, d, "a", "abcde")
	}
	do(t, d, w, appends("a", "x"), truncs("a", 1))
	crashed(t, d, 1, 0)
	reads(t, d, "a", "abcdex")
	crashed(t, d, 0, 1)
	reads(t, d, "a", "abcdex")
}

// P5.1, P5.3: behind a crash there is as much room as the files leave.
func TestRoomBehindCrash(t *testing.T) {
	d, w := made(t, 5, appends("a", "abc"))
	d.Sync()
	w.sync()
	do(t, d, w, removes("a"), writes("b", "12345"))
	crashed(t, d, 0, 5)
	w.crash(0, 5)
	if e := d.Append("a", "123"); e != api.ErrFull {
		t.Errorf("above the room behind a crash: %v", e)
	}
	do(t, d, w, appends("a", "12"))
	agree(t, d, w)
	if e := d.Append("a", "1"); e != api.ErrFull {
		t.Errorf("above the room: %v", e)
	}
}

// P5.1 to P5.5: drawn things, syncs and crashes do to a disk what the words say, call by
// call; and of each disk that comes of it, a copy crashed by each keep and torn, too.
func TestDrawn(t *testing.T) {
	r := draws()
	for range 300 {
		d, w := drawDisk(t, r, 0)
		for range 30 {
			step(t, r, d, w)
			agree(t, d, w)
		}
		for keep := range len(w.acts) + 1 {
			for torn := range 8 {
				c, v := d.Copy(), w.copy()
				if e, f := c.Crash(keep, torn), v.crash(keep, torn); e != api.OK || f != api.OK {
					t.Fatalf("Crash(%d, %d): %v, %v", keep, torn, e, f)
				}
				agree(t, c, v)
			}
		}
		agree(t, d, w)
	}
}

// P5.5: behind Crash(Loose, 0) the files are as they were seen, whatever torn is.
func TestCrashOfAll(t *testing.T) {
	r := draws()
	for i := range 300 {
		d, _ := drawDisk(t, r, r.Intn(40))
		seen := told(t, d)
		crashed(t, d, d.Loose(), i%3)
		if got := told(t, d); !slices.Equal(got, seen) {
			t.Fatalf("%q, not %q", got, seen)
		}
	}
}

// P5.5: what a crash leaves hangs on the files at the last Sync and on what was done
// since alone: a disk whose files came to be in another way is left the same; calls that
// answer errors do not count.
func TestCrashHangsOn(t *testing.T) {
	r := draws()
	for range 200 {
		d, w := drawDisk(t, r, r.Intn(30))
		d.Sync()
		w.sync()
		other := disk.New(1000)
		for _, f := range w.base {
			other.Append(f.name, "x")
			other.Write(f.name, f.bytes)
		}
		other.Sync()
		for range r.Intn(12) {
			a := drawAct(r)
			if e := a.on(d); e == api.OK {
				a.on(other)
			}
		}
		for keep := range d.Loose() + 1 {
			for torn := range 7 {
				c, o := d.Copy(), other.Copy()
				crashed(t, c, keep, torn)
				crashed(t, o, keep, torn)
				if !disk.Same(c, o) || !slices.Equal(told(t, c), told(t, o)) {
					t.Fatalf("Crash(%d, %d): %q, and %q", keep, torn, told(t, c), told(t, o))
				}
			}
		}
	}
}

// P5.4: a copy has the same, what is loose and the room too; what is done to either of
// the two is not seen in the other.
func TestCopy(t *testing.T) {
	r := draws()
	for range 200 {
		d, w := drawDisk(t, r, r.Intn(30))
		c, v := d.Copy(), w.copy()
		agree(t, c, v)
		if c == d || !disk.Same(c, d) || !disk.Same(d, c) {
			t.Fatalf("a copy is not the same, or not another one, of %v", w)
		}
		for range 20 {
			if r.Intn(2) == 0 {
				step(t, r, d, w)
			} else {
				step(t, r, c, v)
			}
			agree(t, d, w)
			agree(t, c, v)
		}
		crashed(t, d, 0, 0)
		w.crash(0, 0)
		agree(t, d, w)
		agree(t, c, v)
		crashed(t, c, 0, 0)
		v.crash(0, 0)
		agree(t, c, v)
	}
}

// P5.4: both of a disk and its copy go on with lists of their own of what is loose.
func TestCopyLoose(t *testing.T) {
	for n := range 9 {
		d := disk.New(99)
		for range n {
			d.Append("a", "x")
		}
		c := d.Copy()
		d.Append("a", "d")
		c.Append("a", "c")
		crashed(t, d, n+1, 0)
		crashed(t, c, n+1, 0)
		all := "xxxxxxxxx"[:n]
		reads(t, d, "a", all+"d")
		reads(t, c, "a", all+"c")
	}
}

// P5.4: Same holds the files as they are seen, those behind Crash(0, 0), and the number
// of loose things against each other; neither the room nor how the files came to be.
func TestSame(t *testing.T) {
	made1 := func(room int, synced, loose []act) *disk.Disk {
		d, w := made(t, room, synced...)
		d.Sync()
		do(t, d, w, loose...)
		return d
	}
	base := []act{writes("a", "abc")}
	first := func() *disk.Disk { return made1(20, base, []act{appends("a", "de")}) }
	for _, one := range []struct {
		why   string
		other *disk.Disk
		same  bool
	}{
		{"the same", first(), true},
		{"another room", made1(5, base, []act{appends("a", "de")}), true},
		{"the same files by other things", made1(20, []act{appends("a", "a"), appends("a", "bc"), writes("b", ""), removes("b")}, []act{writes("a", "abcde")}), true},
		{"other bytes seen", made1(20, base, []act{appends("a", "dx")}), false},
		{"another name", made1(20, base, []act{renames("a", "b")}), false},
		{"a file more, of no bytes", made1(20, base, []act{appends("b", "")}), false},
		{"the same seen, others behind Crash(0, 0)", made1(20, []act{writes("a", "abcd")}, []act{appends("a", "e")}), false},
		{"the same seen, none behind Crash(0, 0)", made1(20, nil, []act{writes("a", "abcde")}), false},
		{"the same behind Crash(0, 0), others seen", made1(20, base, []act{appends("a", "d")}), false},
		{"more loose things", made1(20, base, []act{appends("a", "d"), appends("a", "e")}), false},
		{"a loose thing more that changes nothing", made1(20, base, []act{appends("a", "de"), renames("a", "a")}), false},
		{"nothing loose", made1(20, []act{writes("a", "abcde")}, nil), false},
		{"an empty disk", disk.New(20), false},
	} {
		d := first()
		if disk.Same(d, one.other) != one.same || disk.Same(one.other, d) != one.same {
			t.Errorf("%s: Same is not %v", one.why, one.same)
		}
		if !disk.Same(d, d) || !disk.Same(one.other, one.other) || !disk.Same(d, first()) {
			t.Errorf("%s: a disk is not the same as itself", one.why)
		}
	}
	if !disk.Same(disk.New(0), disk.New(math.MaxInt)) {
		t.Errorf("two empty disks are not the same")
	}
}

// P5.4: Same of drawn disks is what the words' lists say.
func TestSameDrawn(t *testing.T) {
	r := draws()
	same := 0
	for range 3000 {
		d, w := drawDisk(t, r, r.Intn(5))
		o, v := drawDisk(t, r, r.Intn(5))
		want := slices.Equal(w.seen(), v.seen()) && slices.Equal(w.base, v.base) && len(w.acts) == len(v.acts)
		if disk.Same(d, o) != want {
			t.Fatalf("Same is not %v, of %v and %v", want, w, v)
		}
		if want && d.Loose() > 0 {
			same++
		}
	}
	if same == 0 {
		t.Errorf("no two disks with anything loose were the same")
	}
}
