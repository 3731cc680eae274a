package wal_test

import (
	"fmt"
	"maps"
	"math/rand"
	"regexp"
	"slices"
	"strconv"
	"strings"
	"testing"

	"tessera/api"
	"tessera/code"
	"tessera/disk"
	"tessera/wal"
)

// draws is the same row of numbers in every run, so that a failure comes back.
func draws() *rand.Rand { return rand.New(rand.NewSource(6)) }

// had is what a disk has of a wal, by the chapter's words alone.
type had struct {
	first   int
	records []string
	own     []int // the files' numbers, rising
	sizes   []int // how many records each has
	used    int   // bytes of the last file's frames
	behind  int   // bytes of it behind them
	strays  []int // files of the form that are not its own, rising
}

func (h had) next() int { return h.first + len(h.records) }

var number = regexp.MustCompile(`^[0-9]{12}$`)

func path(name string, n int) string { return fmt.Sprintf("%s/%012d", name, n) }

// has finds the wal's files by looking each next number up among all that have the form.
func has(d *disk.Disk, name string) had {
	files := map[int]string{}
	for _, file := range d.Names() {
		digits, found := strings.CutPrefix(file, name+"/")
		if !found || !number.MatchString(digits) {
			continue
		}
		if n, _ := strconv.Atoi(digits); n >= 1 {
			files[n], _ = d.Read(file)
		}
	}
	h := had{first: 1}
	if len(files) == 0 {
		return h
	}
	h.first = slices.Min(slices.Collect(maps.Keys(files)))
	for n := h.first; ; n = h.next() {
		bytes, there := files[n]
		if !there {
			break
		}
		delete(files, n)
		frames, _, _ := code.Frames(bytes)
		frames = frames[:min(len(frames), api.MaxSegment)]
		h.own, h.sizes = append(h.own, n), append(h.sizes, len(frames))
		h.records = append(h.records, frames...)
		h.used = len(framed(frames...))
		h.behind = len(bytes) - h.used
		if len(frames) < api.MaxSegment || h.behind > 0 {
			break
		}
	}
	h.strays = slices.Sorted(maps.Keys(files))
	return h
}

// framed is the frames of records, one behind the other.
func framed(records ...string) string {
	var out strings.Builder
	for _, r := range records {
		frame, _ := code.Frame(r)
		out.WriteString(frame)
	}
	return out.String()
}

// act is one call of a wal, as plain data.
type act struct {
	verb    string // append, sync, drop, cut
	records []string
	n       int
}

func appends(records ...string) act { return act{verb: "append", records: records} }
func syncs() act                    { return act{verb: "sync"} }
func drops(below int) act           { return act{verb: "drop", n: below} }
func cuts(from int) act             { return act{verb: "cut", n: from} }

// on does it to a wal.
func (a act) on(w *wal.Wal) (int, api.Errno) {
	switch a.verb {
	case "append":
		return w.Append(a.records...)
	case "sync":
		return 0, w.Sync()
	case "drop":
		return 0, w.Drop(a.n)
	}
	return 0, w.Cut(a.n)
}

// by does to a disk what the chapter says that it does, from what the disk has alone.
func (a act) by(d *disk.Disk, name string) (int, api.Errno) {
	h := has(d, name)
	switch a.verb {
	case "append":
		return appended(d, name, a.records)
	case "sync":
		return 0, d.Sync()
	case "drop":
		if a.n > h.next() {
			return 0, api.ErrArg
		}
		for i := 0; i < len(h.own)-1 && h.own[i]+h.sizes[i]-1 < a.n; i++ {
			d.Remove(path(name, h.own[i]))
		}
		return 0, api.OK
	}
	if a.n < h.first || a.n > h.next() {
		return 0, api.ErrArg
	}
	for _, n := range slices.Backward(h.own) {
		if n > a.n {
			d.Remove(path(name, n))
			continue
		}
		bytes, _ := d.Read(path(name, n))
		left := framed(h.records[n-h.first : a.n-h.first]...)
		if len(bytes) > len(left) && strings.HasPrefix(bytes, left) {
			d.Trunc(path(name, n), len(left))
		}
		break
	}
	return 0, api.OK
}

func appended(d *disk.Disk, name string, records []string) (int, api.Errno) {
	for _, r := range records {
		if len(r) > api.MaxRecord {
			return 0, api.ErrLong
		}
	}
	for i, r := range records {
		h := has(d, name)
		n := h.next()
		if k := len(h.own) - 1; k >= 0 && h.sizes[k] < api.MaxSegment {
			n = h.own[k]
		}
		if e := d.Append(path(name, n), framed(r)); e != api.OK {
			return i, e
		}
	}
	return len(records), api.OK
}

// cleaned does to a disk what Open does.
func cleaned(d *disk.Disk, name string) {
	h := has(d, name)
	if h.behind > 0 {
		d.Trunc(path(name, h.own[len(h.own)-1]), h.used)
	}
	for _, n := range h.strays {
		d.Remove(path(name, n))
	}
	if h.behind > 0 || len(h.strays) > 0 {
		d.Sync()
	}
}

// told fails unless a wal tells these records, from that number on, by all of its calls.
func told(t *testing.T, w *wal.Wal, first int, records []string) {
	t.Helper()
	if w.First() != first || w.Next() != first+len(records) {
		t.Fatalf("%d to %d, not %d to %d", w.First(), w.Next(), first, first+len(records))
	}
	for i, want := range records {
		if got, e := w.At(first + i); got != want || e != api.OK {
			t.Fatalf("At(%d): %q, %v, not %q", first+i, brief(got), e, brief(want))
		}
	}
	for _, i := range []int{first - 1, first + len(records)} {
		if got, e := w.At(i); got != "" || e != api.ErrNone {
			t.Fatalf("At(%d) of %d to %d: %q, %v", i, w.First(), w.Next(), brief(got), e)
		}
	}
	n := 0
	for i, got := range w.All() {
		if n == len(records) || i != first+n || got != records[n] {
			t.Fatalf("All: %q at %d, as the record %d of %d from %d on", brief(got), i, n, len(records), first)
		}
		n++
	}
	if n != len(records) {
		t.Fatalf("All: %d records, not %d", n, len(records))
	}
}

// brief is the beginning of a text that may be very long.
func brief(s string) string { return s[:min(len(s), 20)] }

// agree fails unless a wal tells what its disk has, and the disk is clean.
func agree(t *testing.T, w *wal.Wal, d *disk.Disk, name string) {
	t.Helper()
	h := has(d, name)
	told(t, w, h.first, h.records)
	if h.behind > 0 || len(h.strays) > 0 {
		t.Fatalf("%d bytes behind, and the files %v", h.behind, h.strays)
	}
}

// alike fails unless two disks are the same, and by each crash of one thing less, too.
func alike(t *testing.T, d, other *disk.Disk) {
	t.Helper()
	if !disk.Same(d, other) {
		t.Fatalf("files %q, %d loose; by the words %q, %d loose", d.Names(), d.Loose(), other.Names(), other.Loose())
	}
	if n := d.Loose(); n > 0 {
		a, b := d.Copy(), other.Copy()
		a.Crash(n-1, 3)
		b.Crash(n-1, 3)
		if !disk.Same(a, b) {
			t.Fatalf("what was done last is not the same: files %q, by the words %q", a.Names(), b.Names())
		}
	}
}

// opened is a wal that must be allowed.
func opened(t *testing.T, d *disk.Disk, name string) *wal.Wal {
	t.Helper()
	w, e := wal.Open(d, name)
	if e != api.OK || w == nil {
		t.Fatalf("Open(%q): %v, %v", name, w, e)
	}
	return w
}

// do does acts to a wal and to a copy of its disk by the words, and holds both against
// each other behind each one.
func do(t *testing.T, w *wal.Wal, d *disk.Disk, name string, acts ...act) {
	t.Helper()
	for _, a := range acts {
		other := d.Copy()
		m, f := a.by(other, name)
		if n, e := a.on(w); n != m || e != f {
			t.Fatalf("%v: %d, %v, not %d, %v", a.verb, n, e, m, f)
		}
		alike(t, d, other)
		agree(t, w, d, name)
	}
}

// made is a wal named log of so many records, r1, r2 and so on, on a new disk.
func made(t *testing.T, n int) (*wal.Wal, *disk.Disk) {
	t.Helper()
	d := disk.New(1 << 20)
	w := opened(t, d, "log")
	if m, e := w.Append(rising(1, n)...); m != n || e != api.OK {
		t.Fatalf("Append of %d: %d, %v", n, m, e)
	}
	return w, d
}

// rising is the records that made gives the numbers from first to last.
func rising(first, last int) []string {
	var out []string
	for i := first; i <= last; i++ {
		out = append(out, "r"+strconv.Itoa(i))
	}
	return out
}

func drawRecord(r *rand.Rand) string {
	bytes := make([]byte, r.Intn(6))
	for i := range bytes {
		bytes[i] = byte(r.Intn(4) * 85)
	}
	return string(bytes)
}

// drawAct is a call at or about the edges of what the wal has.
func drawAct(r *rand.Rand, w *wal.Wal) act {
	near := w.First() - 2 + r.Intn(w.Next()-w.First()+5)
	if r.Intn(3) == 0 {
		near = w.First() + (near-w.First())/api.MaxSegment*api.MaxSegment
	}
	switch r.Intn(8) {
	case 0:
		return syncs()
	case 1:
		return drops(near)
	case 2:
		return cuts(near)
	}
	a := appends()
	for range r.Intn(25) {
		a.records = append(a.records, drawRecord(r))
	}
	return a
}
