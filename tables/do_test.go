package tables_test

import (
	"fmt"
	"math"
	"slices"
	"strings"
	"testing"

	"tessera/api"
	"tessera/disk"
	"tessera/tables"
)

// holds fails unless a disk has just these files.
func holds(t *testing.T, d *disk.Disk, files ...one) {
	t.Helper()
	var names []string
	for _, f := range files {
		names = append(names, f.name)
		if got, e := d.Read(f.name); got != f.bytes || e != api.OK {
			t.Errorf("%s: %q, %v, not %q", f.name, brief(got), e, brief(f.bytes))
		}
	}
	slices.Sort(names)
	if !slices.Equal(d.Names(), names) {
		t.Errorf("the files %q, not %q", d.Names(), names)
	}
}

// P8.4: with nothing in memory nothing is done; else there is a table, a manifest that
// names it first, and nothing loose.
func TestFlush(t *testing.T) {
	s, d := made(t, flushes())
	holds(t, d)
	do(t, s, d, puts(val("k", 5, "a"), val("b", 1, "x")), puts(del("k", 7)), flushes())
	log := records(1, laid(val("k", 5, "a"), val("b", 1, "x")), laid(del("k", 7)))
	first := table(1, val("b", 1, "x"), del("k", 7), val("k", 5, "a"))
	holds(t, d, log, first, one{"manifest", framed("\x01\x01" + "\x01\x01" + "\x01\x02" + "\x01\x03" + "\x00")})
	if d.Loose() != 0 {
		t.Errorf("%d loose", d.Loose())
	}
	do(t, s, d, flushes(), puts(), flushes())
	holds(t, d, log, first, manifests(1, 1, 2, 3, 0))
	do(t, s, d, puts(val("k", 7, "again")), flushes())
	log.bytes += framed(laid(val("k", 7, "again")))
	holds(t, d, log, first, table(2, val("k", 7, "again")), manifests(2, 2, 1, 3, 4, 0))
	s = opened(t, d)
	do(t, s, d, flushes(), puts(val("k", 8, "")), flushes())
	if h := has(d); !slices.Equal(h.tables, []int{3, 2, 1}) || h.next != 4 {
		t.Errorf("the manifest is %v", h)
	}
}

// P8.4: behind a Flush the log has its last file alone; the others' removal is loose.
func TestFlushLog(t *testing.T) {
	for _, n := range []int{1, 31, 32, 33, 64, 65, 96, 100} {
		s, d := made(t)
		for i := range n {
			s.Put(val("k", uint64(i+1), fmt.Sprint(i)))
		}
		do(t, s, d, flushes())
		if h, last := has(d), (n-1)/32*32+1; !slices.Equal(h.files, []int{last}) || h.record != n+1 || d.Loose() != (n-1)/32 {
			t.Errorf("%d records: the files %v, the record %d, %d loose", n, h.files, h.record, d.Loose())
		}
		for keep := range d.Loose() + 1 {
			c := d.Copy()
			c.Crash(keep, 0)
			v := opened(t, c)
			agree(t, v, c)
			if v.Len() != n || len(has(c).files) != (n-1)/32+1-keep {
				t.Errorf("%d records: Len %d, the files %v", n, v.Len(), has(c).files)
			}
			do(t, v, c, puts(val("k", 1000, "x")), flushes(), puts(val("k", 1001, "x")))
		}
		do(t, s, d, puts(val("k", 1000, "x")), puts(val("k", 1001, "x")), flushes())
		agree(t, opened(t, d), d)
	}
}

// P8.4: below at, below and above the low time, with no, one and several tables.
func TestCompact(t *testing.T) {
	list := []api.Cell{val("a", 5, "a5"), val("a", 3, "a3"), val("a", 9, "a9"), del("b", 4), val("b", 2, "b2"), val("c", 6, "c6"), del("c", 8), del("d", 1)}
	for low := range uint64(11) {
		for n := range 4 { // tables ahead of it
			for below := range uint64(12) {
				s, d := made(t, compacts(low))
				var late []api.Cell
				for i, c := range list {
					if c.Time > low {
						late = append(late, c)
						s.Put(c)
					}
					if i%3 < n {
						s.Flush()
					}
				}
				do(t, s, d, compacts(below))
				told(t, s, words(late).trim(max(below, low)), max(below, low))
				if h := has(d); h.low != max(below, low) || len(h.tables) != min(len(words(late).trim(max(below, low))), 1) {
					t.Fatalf("Compact(%d) above %d: %v", below, low, h)
				}
			}
		}
	}
}

// P8.4: the files that a Compact leaves.
func TestCompactFiles(t *testing.T) {
	s, d := made(t, compacts(0))
	holds(t, d)
	do(t, s, d, compacts(4))
	holds(t, d, one{"manifest", framed("\x00" + "\x01\x01" + "\x01\x01" + "\x01\x04")})
	do(t, s, d, compacts(4), compacts(0), compacts(3))
	if d.Loose() != 0 || s.Broken() {
		t.Errorf("%d loose", d.Loose())
	}
	holds(t, d, manifests(0, 1, 1, 4))
	do(t, s, d, puts(val("k", 5, "a"), val("k", 6, "b")), compacts(0)) // a table by Flush, and another one of that
	log := records(1, laid(val("k", 5, "a"), val("k", 6, "b")))
	holds(t, d, log, table(2, val("k", 6, "b"), val("k", 5, "a")), manifests(1, 2, 3, 2, 4))
	do(t, s, d, compacts(4)) // again, as there is a table
	holds(t, d, log, table(3, val("k", 6, "b"), val("k", 5, "a")), manifests(1, 3, 4, 2, 4))
	do(t, s, d, compacts(6))
	holds(t, d, log, table(4, val("k", 6, "b")), manifests(1, 4, 5, 2, 6))
	do(t, s, d, puts(del("k", 7)), flushes(), puts(val("l", 8, ""), del("l", 9)), flushes(), compacts(9)) // nothing is left
	log.bytes += framed(laid(del("k", 7))) + framed(laid(val("l", 8, ""), del("l", 9)))
	holds(t, d, log, manifests(0, 7, 4, 9))
	if s.Len() != 0 || s.Tables() != 0 || d.Loose() != 0 {
		t.Errorf("Len %d, Tables %d, %d loose", s.Len(), s.Tables(), d.Loose())
	}
	do(t, s, d, compacts(9))
	holds(t, d, log, manifests(0, 7, 4, 9))
	do(t, s, d, compacts(math.MaxUint64), puts(val("k", math.MaxUint64, "")))
	holds(t, d, log, manifests(0, 7, 4, math.MaxUint64))
	agree(t, opened(t, d), d)
}

// place is which of the things that a call does to a disk fails there.
func place(a act, d *disk.Disk) string {
	ops := a.ops(d)
	n := 0
	for ops[n].on(d) == api.OK {
		n++
	}
	return fmt.Sprint(a.verb, " ", ops[n].verb, " ", strings.TrimRight(ops[n].name, "0123456789"), " at ", n)
}

// P8.4: a disk's error at each place by which a call needs room: behind it the store is
// broken, has what it had, and is opened with that.
func TestFull(t *testing.T) {
	at := map[string]int{}
	for room := range 420 {
		for _, acts := range [][]act{
			{puts(val("k", 5, "aaa"), val("l", 5, "")), puts(val("k", 6, "b")), syncs(), flushes(), puts(val("k", 7, "ccccccccc")), flushes(),
				puts(del("k", 8)), compacts(6), puts(val("z", 20, "zz")), compacts(9)},
			{puts(del("k", 5)), compacts(9)},
			{compacts(9)},
		} {
			d := disk.New(room)
			s := opened(t, d)
			for _, a := range acts {
				before := d.Copy()
				if do(t, s, d, a) {
					at[place(a, before)]++
					refused(t, s, d)
					break
				}
			}
			agree(t, s, d)
			agree(t, opened(t, d), d)
		}
	}
	for _, want := range []string{
		"put append log/ at 0", "flush write table/ at 0", "flush write manifest.new at 2", "compact write table/ at 0", "compact write manifest.new at 2",
		"compact write table/ at 6", "compact write manifest.new at 8", "compact write manifest.new at 6", "compact write manifest.new at 0",
	} {
		if at[want] == 0 {
			t.Errorf("no room makes it fail at: %s; but at %v", want, at)
		}
	}
}

// P8.4: a disk that can have no more files, or just one or two.
func TestFiles(t *testing.T) {
	for free := range 4 {
		for _, a := range []act{flushes(), compacts(0), compacts(9)} {
			s, d := made(t, puts(val("k", 5, "a")), flushes(), puts(val("k", 6, "b")))
			for i := len(d.Names()); i < api.MaxFiles-free; i++ {
				d.Append(fmt.Sprint(i), "")
			}
			d.Sync()
			if broken := do(t, s, d, a); broken != (free < 2 || free < 3 && a.verb == "compact") {
				t.Errorf("%v with %d free: broken %v", a, free, broken)
			}
			agree(t, opened(t, d), d)
		}
	}
}

// P8.4: a file of the log that others took away: the manifest is laid, so the table counts.
func TestDropFails(t *testing.T) {
	for _, a := range []act{flushes(), compacts(9)} {
		for gone := range 3 {
			s, d := made(t)
			for i := range 100 {
				s.Put(val("k", uint64(i+1), ""))
			}
			d.Remove(logFile(1 + 32*gone))
			if _, e := a.on(s); e != api.ErrNone || !s.Broken() || s.Tables() != 1 || s.Len() != 100 {
				t.Errorf("%v: %v, broken %v, %d tables, Len %d", a, e, s.Broken(), s.Tables(), s.Len())
			}
			refused(t, s, d)
			var want []string // those behind it are not reached, those ahead are removed
			for i := gone + 1; i < 4; i++ {
				want = append(want, logFile(1+32*i))
			}
			if got := d.Names(); !slices.Equal(got, append(want, "manifest", "table/00000001")) {
				t.Errorf("%v: the files %q", a, got)
			}
			told(t, opened(t, d), words(slices.Collect(func(yield func(api.Cell) bool) {
				for i := range 100 {
					yield(val("k", uint64(i+1), ""))
				}
			})), 0)
		}
	}
}

// P8.4: the tables that were are removed by their numbers rising, in whichever order the
// manifest has them; behind an error the new manifest holds.
func TestRemoveFails(t *testing.T) {
	for gone := 1; gone <= 3; gone++ {
		for _, order := range [][]uint64{{3, 2, 1}, {1, 2, 3}, {2, 3, 1}} {
			d := with(manifests(3, order[0], order[1], order[2], 4, 1, 0), table(1, val("a", 1, "")), table(2, val("b", 2, "")), table(3, val("c", 3, ""), val("c", 1, "")))
			s := opened(t, d)
			d.Remove(tableFile(gone))
			if e := s.Compact(3); e != api.ErrNone || !s.Broken() || s.Tables() != 1 || s.Len() != 3 {
				t.Errorf("Compact: %v, broken %v, %d tables, Len %d", e, s.Broken(), s.Tables(), s.Len())
			}
			refused(t, s, d)
			agree(t, s, d)
			if d.Loose() != gone-1 {
				t.Errorf("%d loose, as the table %d was not there", d.Loose(), gone)
			}
			files := []one{manifests(1, 4, 5, 1, 3), table(4, val("a", 1, ""), val("b", 2, ""), val("c", 3, ""))}
			for n, l := range map[int][]api.Cell{2: {val("b", 2, "")}, 3: {val("c", 3, ""), val("c", 1, "")}} {
				if n > gone {
					files = append(files, table(n, l...))
				}
			}
			holds(t, d, files...)
			agree(t, opened(t, d), d)
		}
	}
}

// P8.4: what is above MaxFrame is no table: ErrLong, by which nothing is done and the store is not broken.
func TestLong(t *testing.T) {
	d := disk.New(1 << 26)
	s := opened(t, d)
	value := strings.Repeat("v", api.MaxCell)
	fill := func(key string, n int) {
		t.Helper()
		for i := range n {
			if m, e := s.Put(val(key, uint64(i+1), value)); m != 1 || e != api.OK {
				t.Fatalf("Put: %d, %v", m, e)
			}
		}
	}
	fill("k", 255)
	fill("l", 1)
	before := d.Copy()
	for range 2 {
		if e := s.Flush(); e != api.ErrLong || s.Broken() || s.Tables() != 0 || s.Len() != 256 {
			t.Fatalf("Flush: %v, broken %v, %d tables, Len %d", e, s.Broken(), s.Tables(), s.Len())
		}
		if e := s.Compact(999); e != api.ErrLong || s.Broken() {
			t.Fatalf("Compact: %v, broken %v", e, s.Broken())
		}
	}
	alike(t, d, before)
	for i := range uint64(9) {
		s.Put(val("l", 1, ""), val("k", i+1, ""))
	}
	if e := s.Flush(); e != api.OK || s.Tables() != 1 {
		t.Fatalf("Flush: %v, %d tables", e, s.Tables())
	}
	fill("m", 10)
	for range 2 { // each of the tables is short enough, both together are not
		if e := s.Compact(0); e != api.ErrLong || s.Broken() || s.Tables() != 2 || s.Len() != 266 || has(d).low != 0 {
			t.Fatalf("Compact: %v, broken %v, %d tables, Len %d", e, s.Broken(), s.Tables(), s.Len())
		}
	}
	if got := len(slices.Collect(opened(t, d.Copy()).Scan("", "", 999))); got != 3 {
		t.Errorf("Scan: %d", got)
	}
	if e := s.Compact(999); e != api.OK || s.Tables() != 1 || s.Len() != 3 {
		t.Errorf("Compact: %v, %d tables, Len %d", e, s.Tables(), s.Len())
	}
}

// P8.4: tables have numbers of eight digits; behind the last one there is no more room for one.
func TestNumbers(t *testing.T) {
	d := with(manifests(0, 99999999, 1, 0))
	s := opened(t, d)
	do(t, s, d, puts(val("k", 5, "a")), flushes())
	holds(t, d, records(1, laid(val("k", 5, "a"))), one{"table/99999999", framed(laid(val("k", 5, "a")))}, manifests(1, 99999999, 100000000, 2, 0))
	s = opened(t, d)
	for _, next := range []uint64{100000000, 100000001, math.MaxUint64} {
		d.Write("manifest", manifests(1, 99999999, next, 2, 0).bytes)
		d.Sync()
		c := d.Copy()
		v := opened(t, c)
		check := func(e api.Errno) {
			t.Helper()
			if e != api.ErrFull || v.Broken() || c.Loose() > 1 || v.Tables() != 1 {
				t.Errorf("%d: %v, broken %v, %d loose", next, e, v.Broken(), c.Loose())
			}
		}
		check(v.Compact(0))
		v.Put(val("k", 6, "b"))
		check(v.Flush())
		check(v.Compact(6))
		told(t, v, words{val("k", 5, "a"), val("k", 6, "b")}, 0)
		told(t, opened(t, c), words{val("k", 5, "a"), val("k", 6, "b")}, 0)
	}
	// what is trimmed away needs no table
	d = with(manifests(1, 1, math.MaxUint64, 1, 0), table(1, del("k", 5)))
	s = opened(t, d)
	if e := s.Compact(5); e != api.OK || s.Tables() != 0 || s.Len() != 0 {
		t.Errorf("Compact: %v, %d tables", e, s.Tables())
	}
	holds(t, d, manifests(0, math.MaxUint64, 1, 5))
}

// seenAt is what is seen at each of the times from low on.
func seenAt(s *tables.Store, low, high uint64) string {
	var out []string
	for time := low; time <= high; time++ {
		out = append(out, fmt.Sprint(time, slices.Collect(s.Scan("", "", time))))
	}
	return strings.Join(out, "\n")
}

// P8.7: Flush and Compact do not change what is seen at or above the low time that they
// leave, nor what Open finds.
func TestUnchanged(t *testing.T) {
	r := draws()
	for range 60 {
		d := disk.New(1 << 20)
		s := opened(t, d)
		low := uint64(0)
		for range 12 {
			s.Put(drawCells(r, 5, low)...)
			a := flushes()
			if r.Intn(3) == 0 {
				a = compacts(low + uint64(r.Intn(3)))
				low = a.below
			}
			before := seenAt(s, low, low+9)
			if _, e := a.on(s); e != api.OK {
				t.Fatalf("%v: %v", a, e)
			}
			for _, one := range []*tables.Store{s, opened(t, d.Copy())} {
				if got := seenAt(one, low, low+9); got != before {
					t.Fatalf("%v: %s\nnot %s", a, got, before)
				}
			}
		}
	}
}
