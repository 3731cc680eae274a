package wal_test

import (
	"math"
	"slices"
	"strconv"
	"strings"
	"testing"

	"tessera/api"
	"tessera/disk"
)

// P6.2: records of any bytes, one a frame, across files' ends, by one call or many.
func TestAppend(t *testing.T) {
	w, d := made(t, 0)
	do(t, w, d, "log", appends())
	if len(d.Names()) != 0 || d.Loose() != 0 {
		t.Errorf("Append of no record: the files %q, %d loose", d.Names(), d.Loose())
	}
	do(t, w, d, "log", appends(""), appends("\x00", "\xff", "/", "é"), appends(framed("x")), appends("a", "a", "a"), appends(rising(10, 31)...))
	do(t, w, d, "log", appends())
	if d.Loose() != 31 || len(d.Names()) != 1 {
		t.Errorf("%d loose, the files %q", d.Loose(), d.Names())
	}
	do(t, w, d, "log", appends("32"), appends("33"), appends(rising(34, 64)...), appends(rising(65, 200)...))
	var want []string
	for n := 1; n <= 200; n += 32 {
		want = append(want, path("log", n))
	}
	if got := d.Names(); !slices.Equal(got, want) || d.Loose() != 200 {
		t.Errorf("the files of 200 records: %q, %d loose", got, d.Loose())
	}
}

// P6.2: a record has at most MaxRecord bytes; if one has more none is added.
func TestLong(t *testing.T) {
	d := disk.New(1 << 23)
	w := opened(t, d, "log")
	most := strings.Repeat("x", api.MaxRecord)
	do(t, w, d, "log", appends("a", most), appends(most))
	for _, records := range [][]string{{most + "y"}, {most + "y", "a"}, {"a", most + "y"}, {"a", most + "y", "b"}} {
		do(t, w, d, "log", act{verb: "append", records: records})
		if n, e := w.Append(records...); n != 0 || e != api.ErrLong || w.Next() != 4 {
			t.Errorf("Append: %d, %v, Next %d", n, e, w.Next())
		}
	}
	full := opened(t, disk.New(3), "log")
	if n, e := full.Append("a", most+"y"); n != 0 || e != api.ErrLong {
		t.Errorf("Append of what is too long where there is no room: %d, %v", n, e)
	}
}

// P6.2: where the disk has no more room Append says how many it has added; the wal has
// them, and goes on when there is room again.
func TestFull(t *testing.T) {
	for _, c := range []struct{ room, added int }{{0, 0}, {8, 0}, {9, 1}, {17, 1}, {18, 2}, {26, 2}, {27, 3}, {35, 3}} {
		d := disk.New(c.room)
		w := opened(t, d, "log")
		do(t, w, d, "log", appends("a", "b", "c", "dd", "e"))
		told(t, w, 1, []string{"a", "b", "c"}[:c.added])
		if n, e := w.Append("x", "y", "z", "w"); n != 0 || e != api.ErrFull {
			t.Errorf("Append with room for %d: %d, %v", c.room, n, e)
		}
		do(t, w, d, "log", cuts(1), appends("x", "y", "z", "w"))
		do(t, opened(t, d, "log"), d, "log", drops(1))
	}
	d := disk.New(33*9 - 1)
	w := opened(t, d, "log")
	if n, e := w.Append(strings.Split(strings.Repeat("x", 40), "")...); n != 32 || e != api.ErrFull || w.Next() != 33 {
		t.Errorf("Append at a file's end: %d, %v, Next %d", n, e, w.Next())
	}
	if len(d.Names()) != 1 {
		t.Errorf("the files %q", d.Names())
	}
	do(t, w, d, "log", drops(33), cuts(33), appends(""), drops(33), appends("x"))
}

// P6.2: a disk takes no more than MaxFiles files, whatever room it has: the last file is
// filled, and no other one begun.
func TestMaxFiles(t *testing.T) {
	w, d := made(t, 30)
	for i := range api.MaxFiles - 1 {
		d.Append("other"+strconv.Itoa(i), "")
	}
	if n, e := w.Append("r31", "r32", "x", "y"); n != 2 || e != api.ErrFull {
		t.Errorf("Append: %d, %v", n, e)
	}
	told(t, w, 1, rising(1, 32))
	d.Remove("other7")
	if n, e := w.Append("r33"); n != 1 || e != api.OK {
		t.Errorf("Append: %d, %v", n, e)
	}
	told(t, w, 1, rising(1, 33))
}

// P6.1, P6.2: numbers of files go up to twelve nines; there is no room for a file above.
func TestGreatestNumber(t *testing.T) {
	const last = 999999999999
	d := disk.New(1 << 16)
	d.Append(path("log", last-32), framed(rising(1, 31)...))
	w := opened(t, d, "log")
	do(t, w, d, "log", appends(rising(32, 63)...))
	if n, e := w.Append("r64", "x"); n != 1 || e != api.ErrFull {
		t.Errorf("Append behind the last number: %d, %v", n, e)
	}
	told(t, w, last-32, rising(1, 64))
	if got := d.Names(); !slices.Equal(got, []string{path("log", last-32), path("log", last)}) {
		t.Errorf("the files %q", got)
	}
	agree(t, w, d, "log")
	do(t, w, d, "log", drops(w.Next()), cuts(last+1), appends("y"))
	told(t, w, last, []string{"r33", "y"})
	d = disk.New(1 << 16)
	d.Append(path("log", last-31), framed(rising(1, 32)...))
	w = opened(t, d, "log")
	if n, e := w.Append("x"); n != 0 || e != api.ErrFull {
		t.Errorf("Append of the record one above the last number, in a new file: %d, %v", n, e)
	}
	agree(t, w, d, "log")
}

// P6.2: Sync makes fast what was done, and is allowed with nothing loose.
func TestSync(t *testing.T) {
	w, d := made(t, 40)
	for range 2 {
		if e := w.Sync(); e != api.OK || d.Loose() != 0 {
			t.Errorf("Sync: %v, %d loose", e, d.Loose())
		}
	}
	d.Crash(0, 0)
	told(t, opened(t, d, "log"), 1, rising(1, 40))
}

// P6.4: files go whole, from the first on, if all that they have is below; the last one stays.
func TestDrop(t *testing.T) {
	for _, c := range []struct{ n, below, first int }{
		{0, math.MinInt, 1}, {0, 0, 1}, {0, 1, 1},
		{5, -7, 1}, {5, 0, 1}, {5, 1, 1}, {5, 3, 1}, {5, 5, 1}, {5, 6, 1},
		{32, 32, 1}, {32, 33, 1},
		{33, 32, 1}, {33, 33, 33}, {33, 34, 33},
		{64, 33, 33}, {64, 64, 33}, {64, 65, 33},
		{100, 0, 1}, {100, 1, 1}, {100, 31, 1}, {100, 32, 1}, {100, 33, 33}, {100, 34, 33}, {100, 64, 33}, {100, 65, 65}, {100, 96, 65}, {100, 97, 97}, {100, 98, 97}, {100, 101, 97},
	} {
		w, d := made(t, c.n)
		loose := d.Loose()
		do(t, w, d, "log", drops(c.below))
		told(t, w, c.first, rising(c.first, c.n))
		if d.Loose() != loose+c.first/32 {
			t.Errorf("Drop(%d) of %d: %d loose behind %d", c.below, c.n, d.Loose(), loose)
		}
		for _, below := range []int{c.n + 2, c.n + 33, math.MaxInt} {
			if e := w.Drop(below); e != api.ErrArg {
				t.Errorf("Drop(%d) of %d: %v", below, c.n, e)
			}
		}
		told(t, w, c.first, rising(c.first, c.n))
		do(t, w, d, "log", appends(rising(c.n+1, c.n+40)...))
		told(t, w, c.first, rising(c.first, c.n+40))
		do(t, w, d, "log", drops(c.below))
	}
}

// P6.4: the last file stays though it has no record; the one ahead of it goes.
func TestDropToNone(t *testing.T) {
	w, d := made(t, 40)
	do(t, w, d, "log", cuts(33), drops(32))
	told(t, w, 1, rising(1, 32))
	do(t, w, d, "log", drops(33))
	told(t, w, 33, nil)
	if got := d.Names(); !slices.Equal(got, []string{path("log", 33)}) {
		t.Errorf("the files %q", got)
	}
	told(t, opened(t, d, "log"), 33, nil)
	do(t, w, d, "log", drops(33), cuts(33), appends("x"))
	told(t, w, 33, []string{"x"})
}

// P6.4: behind Cut there is nothing from that number on; what comes then has its numbers.
func TestCut(t *testing.T) {
	for _, c := range []struct {
		n, from, files, done int // how many files are left, and how many things were done
	}{
		{0, 1, 0, 0},
		{5, 1, 1, 1}, {5, 2, 1, 1}, {5, 5, 1, 1}, {5, 6, 1, 0},
		{32, 1, 1, 1}, {32, 32, 1, 1}, {32, 33, 1, 0},
		{33, 1, 1, 2}, {33, 32, 1, 2}, {33, 33, 2, 1}, {33, 34, 2, 0},
		{64, 33, 2, 1}, {64, 64, 2, 1}, {64, 65, 2, 0},
		{100, 1, 1, 4}, {100, 20, 1, 4}, {100, 32, 1, 4}, {100, 33, 2, 3}, {100, 34, 2, 3}, {100, 64, 2, 3}, {100, 65, 3, 2}, {100, 96, 3, 2}, {100, 97, 4, 1}, {100, 98, 4, 1}, {100, 100, 4, 1}, {100, 101, 4, 0},
	} {
		w, d := made(t, c.n)
		loose := d.Loose()
		do(t, w, d, "log", cuts(c.from))
		told(t, w, 1, rising(1, c.from-1))
		if len(d.Names()) != c.files || d.Loose() != loose+c.done {
			t.Errorf("Cut(%d) of %d: the files %q, %d loose behind %d", c.from, c.n, d.Names(), d.Loose(), loose)
		}
		for _, from := range []int{math.MinInt, -1, 0, c.from + 1, c.from + 32, math.MaxInt} {
			if e := w.Cut(from); e != api.ErrArg {
				t.Errorf("Cut(%d) of %d: %v", from, c.from-1, e)
			}
		}
		told(t, w, 1, rising(1, c.from-1))
		do(t, w, d, "log", cuts(c.from), appends(rising(c.from, c.from+40)...))
		told(t, w, 1, rising(1, c.from+40))
	}
}

// P6.4: below First, which a Drop has moved, nothing can be cut; at First all is.
func TestCutBehindDrop(t *testing.T) {
	w, d := made(t, 100)
	do(t, w, d, "log", drops(70))
	for _, from := range []int{0, 1, 33, 64} {
		if e := w.Cut(from); e != api.ErrArg {
			t.Errorf("Cut(%d) behind Drop(70): %v", from, e)
		}
	}
	told(t, w, 65, rising(65, 100))
	do(t, w, d, "log", cuts(65))
	told(t, w, 65, nil)
	do(t, w, d, "log", appends(rising(65, 99)...), cuts(97), cuts(80))
	told(t, w, 65, rising(65, 79))
}

// P6.4: a last file without records goes, too, if it lies above the number.
func TestCutOfNone(t *testing.T) {
	w, d := made(t, 40)
	do(t, w, d, "log", cuts(33), cuts(20))
	if got := d.Names(); !slices.Equal(got, []string{path("log", 1)}) {
		t.Errorf("the files %q", got)
	}
	told(t, w, 1, rising(1, 19))
	told(t, opened(t, d, "log"), 1, rising(1, 19))
}

// P6.4: behind a disk's error the wal has what it had, but for what was done: a file
// that another has taken away is the disk's ErrNone, one that is too short its ErrArg.
func TestDiskErrors(t *testing.T) {
	w, d := made(t, 100)
	d.Remove(path("log", 33))
	if e := w.Drop(90); e != api.ErrNone {
		t.Errorf("Drop: %v", e)
	}
	told(t, w, 33, rising(33, 100))
	w, d = made(t, 100)
	d.Remove(path("log", 65))
	if e := w.Cut(5); e != api.ErrNone {
		t.Errorf("Cut: %v", e)
	}
	told(t, w, 1, rising(1, 96))
	w, d = made(t, 70)
	d.Trunc(path("log", 33), 3)
	if e := w.Cut(40); e != api.ErrArg {
		t.Errorf("Cut: %v", e)
	}
	told(t, w, 1, rising(1, 64))
	d.Remove(path("log", 33))
	if e := w.Cut(33); e != api.ErrNone {
		t.Errorf("Cut: %v", e)
	}
	told(t, w, 1, rising(1, 64))
}

// P0.1: what is handed in is not changed, spare room behind it included, nor kept.
func TestArguments(t *testing.T) {
	w, _ := made(t, 0)
	room := []string{"a", "b", "c", "d"}
	w.Append(room[:2]...)
	if !slices.Equal(room, []string{"a", "b", "c", "d"}) {
		t.Errorf("the records are %q behind Append", room)
	}
	room[0], room[1] = "x", "y"
	told(t, w, 1, []string{"a", "b"})
}
