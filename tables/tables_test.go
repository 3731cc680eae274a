package tables_test

import (
	"fmt"
	"iter"
	"math"
	"slices"
	"strings"
	"testing"

	"tessera/api"
	"tessera/disk"
	"tessera/tables"
)

// P8.1 to P8.5: the chapter's examples.
func TestExamples(t *testing.T) {
	d := disk.New(1 << 16)
	s := opened(t, d)
	seen := func(time uint64, want api.Cell) {
		t.Helper()
		if got, is := s.Get("k", time); got != want || is != (want != api.Cell{}) {
			t.Errorf("Get(k, %d): %v, %v", time, got, is)
		}
	}
	do(t, s, d, puts(val("k", 5, "a")), flushes(), puts(val("k", 7, "b")))
	seen(6, val("k", 5, "a"))
	seen(7, val("k", 7, "b"))
	if s.Tables() != 1 {
		t.Errorf("Tables: %d", s.Tables())
	}
	do(t, s, d, compacts(7))
	seen(6, api.Cell{})
	seen(7, val("k", 7, "b"))
	if at, e := s.Put(val("k", 7, "c")); s.Len() != 1 || at != 0 || e != api.ErrArg {
		t.Errorf("Len %d, Put: %d, %v", s.Len(), at, e)
	}
	d = disk.New(1 << 16)
	opened(t, d).Put(val("k", 1, "x"))
	d.Crash(0, 0)
	if n := opened(t, d).Len(); n != 0 {
		t.Errorf("Len behind a crash: %d", n)
	}
	if _, e := tables.Table(val("k", 3, "b"), val("k", 5, "a")); e != api.ErrArg {
		t.Errorf("Table: %v", e)
	}
	b, _ := tables.Table(val("k", 5, "a"))
	for i := range len(b) {
		if _, e := tables.ReadTable(b[:i] + string([]byte{b[i] ^ 1}) + b[i+1:]); e != api.ErrTable {
			t.Errorf("ReadTable with the byte %d turned: %v", i, e)
		}
	}
	d.Write("manifest", "none")
	if s, e := tables.Open(d); s != nil || e != api.ErrManifest {
		t.Errorf("Open: %v, %v", s, e)
	}
}

// P8.2: none, one, many, two alike, in any order; what the log has of it.
func TestPut(t *testing.T) {
	s, d := made(t)
	do(t, s, d, puts())
	if len(d.Names()) != 0 || d.Loose() != 0 {
		t.Errorf("a Put of none has left %q", d.Names())
	}
	do(t, s, d, puts(val("k", 5, "a")))
	if got, _ := d.Read(logFile(1)); got != framed("\x01\x01"+"\x01\x01k\x01\x05\x00\x01\x01a") || d.Loose() != 1 {
		t.Errorf("the log is %q", got)
	}
	do(t, s, d, puts(val("z", 300, ""), del("k", 7), val("k", 5, "b"), val("k", 5, "c"), val("a", math.MaxUint64, "x")), puts(del("k", 5)), puts(val("k", 5, "a"), del("k", 5), val("k", 5, "d")))
	if n, e := s.Put(val("b", 1, "x"), val("b", 1, "y")); n != 2 || e != api.OK {
		t.Errorf("Put of two alike: %d, %v", n, e)
	}
	agree(t, s, d)
	agree(t, opened(t, d), d)
}

// P8.2: the first cell that may not be put is told, by its place, and none is put, whether
// it may not be at all or is at or below the low time.
func TestPutWrong(t *testing.T) {
	s, d := made(t, puts(val("k", 12, "x")), compacts(10))
	late := []api.Cell{val("k", 1, "x"), val("k", 9, "x"), del("k", 10), val("k", 10, "x")}
	list := append(wrongs(), late...)
	right := []api.Cell{val("a", 11, "new"), val("l", math.MaxUint64, "x")}
	for _, c := range list {
		do(t, s, d, puts(c), puts(c, right[0]), puts(right[0], c, right[1]), puts(right[0], right[1], c))
		for _, other := range list {
			do(t, s, d, puts(right[0], c, other, right[1]))
			if at, e := s.Put(right[0], c, other); at != 1 || e != wrong(c, 10) {
				t.Fatalf("Put(%v, %v): %d, %v", brief(c), brief(other), at, e)
			}
		}
	}
	if d.Loose() != 0 || s.Len() != 1 || s.Broken() {
		t.Errorf("%d loose, Len %d", d.Loose(), s.Len())
	}
	long := val(strings.Repeat("k", api.MaxKey+1), 10, "")
	if at, e := s.Put(long); at != 0 || e != api.ErrLong {
		t.Errorf("a long key at the low time: %d, %v", at, e)
	}
	do(t, s, d, puts(right...))
}

// P8.2: a record of MaxRecord bytes is added; a longer one is ErrLong, by which the store is not broken.
func TestPutLong(t *testing.T) {
	d := disk.New(1 << 23)
	s := opened(t, d)
	fine := long(api.MaxRecord)
	do(t, s, d, puts(fine...))
	other := d.Copy()
	huge := slices.Repeat([]api.Cell{val("k", 1, strings.Repeat("v", api.MaxCell))}, 20000)
	for i, l := range [][]api.Cell{long(api.MaxRecord + 1), long(2 * api.MaxRecord), huge} {
		if at, e := s.Put(l...); at != 0 || e != api.ErrLong || s.Broken() {
			t.Errorf("%d: %d, %v, broken %v", i, at, e, s.Broken())
		}
		if at, e := s.Put(append(slices.Clone(l), val("", 1, ""))...); at != len(l) || e != api.ErrArg {
			t.Errorf("%d, with a cell that may not be: %d, %v", i, at, e)
		}
	}
	alike(t, d, other)
	do(t, s, d, puts(val("k", 5, "a")), syncs(), flushes())
}

// P8.2: a wal's error breaks the store, and nothing is put.
func TestPutFull(t *testing.T) {
	record := len(framed(laid(val("k", 5, "a"))))
	for room := range 2*record + 2 {
		d := disk.New(room)
		s := opened(t, d)
		broken := do(t, s, d, puts(val("k", 5, "a")), puts(val("k", 6, "b")), puts(val("k", 7, "c")), syncs())
		if !broken || s.Len() != min(room/record, 2) {
			t.Errorf("room %d: broken %v, Len %d", room, broken, s.Len())
		}
		agree(t, s, d)
		agree(t, opened(t, d), d)
	}
	// the disk has no more files, and the log needs a further one
	d := disk.New(1 << 20)
	s := opened(t, d)
	for i := range uint64(api.MaxSegment) {
		s.Put(val("k", i+1, ""))
	}
	for i := range api.MaxFiles - 1 {
		d.Append(fmt.Sprint(i), "")
	}
	if n, e := s.Put(val("k", 99, "")); n != 0 || e != api.ErrFull || !s.Broken() || s.Len() != api.MaxSegment {
		t.Errorf("Put: %d, %v", n, e)
	}
}

// P8.2, P8.4: a disk that is there no more.
func TestDiskGone(t *testing.T) {
	for _, a := range []act{puts(val("k", 9, "x")), syncs(), flushes(), compacts(0), compacts(9)} {
		s, d := made(t, puts(val("k", 5, "a")), flushes(), puts(val("k", 6, "b")))
		*d = disk.Disk{}
		if n, e := a.on(s); n != 0 || e != api.ErrNil || !s.Broken() {
			t.Errorf("%v: %d, %v, broken %v", a, n, e, s.Broken())
		}
		refused(t, s, d)
		told(t, s, words{val("k", 5, "a"), val("k", 6, "b")}, 0)
		if s.Tables() != 1 {
			t.Errorf("%v: %d tables", a, s.Tables())
		}
	}
	// what needs no disk is done without one
	s, d := made(t)
	*d = disk.Disk{}
	for _, a := range []act{puts(), flushes(), compacts(0), puts()} {
		if n, e := a.on(s); n != 0 || e != api.OK || s.Broken() {
			t.Errorf("%v: %d, %v, broken %v", a, n, e, s.Broken())
		}
	}
	if e := s.Compact(1); e != api.ErrNil || !s.Broken() {
		t.Errorf("Compact(1): %v, broken %v", e, s.Broken())
	}
}

// P8.2: what was synced no crash loses.
func TestSync(t *testing.T) {
	s, d := made(t, puts(val("k", 5, "a")), syncs(), puts(val("k", 6, "b")))
	if d.Loose() != 1 {
		t.Errorf("%d loose", d.Loose())
	}
	do(t, s, d, syncs(), syncs())
	if d.Loose() != 0 {
		t.Errorf("%d loose", d.Loose())
	}
	do(t, s, d, puts(val("k", 7, "c")))
	d.Crash(0, 0)
	told(t, opened(t, d), words{val("k", 5, "a"), val("k", 6, "b")}, 0)
}

// P8.3: over memory and no, one and several tables; of one key and time the cell that was put last.
func TestSeen(t *testing.T) {
	layers := [][]api.Cell{
		{val("a", 5, "1"), val("b", 5, "1"), val("c", 5, "1"), val("d", 5, "1"), val("only1", 3, "")},
		{val("a", 5, "2"), del("b", 5), val("c", 7, "2"), val("d", 3, "2"), val("only2", 3, "")},
		{val("a", 5, "3"), val("b", 5, "3"), del("c", 6), del("d", 9), val("only3", 3, "")},
		{del("a", 5), val("b", 4, "4"), val("c", 7, "4"), val("d", 9, "4"), val("only4", 3, "")},
	}
	for mask := range 1 << 4 { // behind which of them a Flush comes
		s, d := made(t)
		for i, l := range layers {
			do(t, s, d, puts(l...))
			if mask>>i&1 == 1 {
				do(t, s, d, flushes())
			}
			told(t, s, allOf(layers[:i+1]...), 0)
			told(t, opened(t, d.Copy()), allOf(layers[:i+1]...), 0)
		}
		for low := range uint64(10) {
			c := d.Copy()
			v := opened(t, c)
			if e := v.Compact(low); e != api.OK {
				t.Fatalf("Compact(%d): %v", low, e)
			}
			told(t, v, allOf(layers...).trim(low), low)
			told(t, opened(t, c), allOf(layers...).trim(low), low)
		}
	}
}

// P8.3: at, below and above the low time.
func TestLow(t *testing.T) {
	s, _ := made(t, puts(val("a", 2, "a2"), val("a", 6, "a6"), val("b", 3, "b3")), compacts(4), puts(val("a", 5, "a5"), del("b", 5)), flushes(), puts(val("c", 5, "c5")))
	for time, want := range map[uint64]string{0: "", 1: "", 2: "", 3: "", 4: "a2 b3", 5: "a5 c5", 6: "a6 c5", 7: "a6 c5", math.MaxUint64: "a6 c5"} {
		var got []string
		for c := range s.Scan("", "", time) {
			got = append(got, c.Val)
			if one, is := s.Get(c.Key, time); one != c || !is {
				t.Errorf("Get(%q, %d): %v, %v", c.Key, time, one, is)
			}
		}
		if strings.Join(got, " ") != want {
			t.Errorf("at %d: %v, not %s", time, got, want)
		}
		if one, is := s.Get("a", time); is != (time >= 4) {
			t.Errorf("Get(a, %d): %v, %v", time, one, is)
		}
	}
}

// P8.3: each key and time once, in memory or in tables or in several of them.
func TestLen(t *testing.T) {
	s, d := made(t)
	for i, c := range []struct {
		a    act
		n, m int
	}{
		{puts(), 0, 0}, {puts(val("k", 5, "a")), 1, 0}, {puts(val("k", 5, "b")), 1, 0}, {flushes(), 1, 1}, {puts(val("k", 5, "c")), 1, 1}, {puts(del("k", 5), val("k", 6, "")), 2, 1},
		{flushes(), 2, 2}, {flushes(), 2, 2}, {puts(val("k", 5, "")), 2, 2}, {puts(val("l", 5, "")), 3, 2}, {flushes(), 3, 3}, {puts(del("l", 6)), 4, 3}, {compacts(0), 4, 1}, {compacts(5), 4, 1}, {compacts(6), 1, 1}, {puts(del("k", 7)), 2, 1}, {compacts(7), 0, 0},
	} {
		do(t, s, d, c.a)
		if s.Len() != c.n || s.Tables() != c.m {
			t.Errorf("%d: Len %d, Tables %d, not %d, %d", i, s.Len(), s.Tables(), c.n, c.m)
		}
	}
}

// P0.1: what is put, flushed or compacted on the way is not told; when it is gone over again it is.
func TestOnTheWay(t *testing.T) {
	s, d := made(t, puts(val("b", 1, "x"), val("d", 1, "y")), flushes(), puts(val("f", 1, "z")))
	over := s.Scan("", "", 9)
	var got []api.Cell
	for c := range over {
		got = append(got, c)
		s.Put(val("a", 9, "new"), val("e", 9, "new"), val("f", 9, "new"), del("d", 9))
		s.Flush()
		s.Compact(9)
	}
	if want := []api.Cell{val("b", 1, "x"), val("d", 1, "y"), val("f", 1, "z")}; !slices.Equal(got, want) {
		t.Errorf("%v, not %v", got, want)
	}
	agree(t, s, d)
	same(t, "again", over, []api.Cell{val("a", 9, "new"), val("b", 1, "x"), val("e", 9, "new"), val("f", 9, "new")})
	s.Compact(10)
	same(t, "below the low time", over, nil)
	for c := range s.Scan("", "", 10) {
		c.Val = "changed"
	}
	agree(t, s, d)
}

// P0.1: a store that is not there, or that Open did not make, is ErrNil, or tells nothing.
func TestNoStore(t *testing.T) {
	for _, s := range []*tables.Store{nil, {}, new(tables.Store)} {
		for range 2 {
			for _, a := range []act{puts(), puts(val("k", 1, "x")), puts(api.Cell{}), puts(long(api.MaxRecord + 1)...), syncs(), flushes(), compacts(0), compacts(math.MaxUint64)} {
				if n, e := a.on(s); n != 0 || e != api.ErrNil {
					t.Errorf("%v: %d, %v", brief(a), n, e)
				}
			}
			if c, is := s.Get("k", 1); c != (api.Cell{}) || is {
				t.Errorf("Get: %v, %v", c, is)
			}
			for _, told := range []iter.Seq[api.Cell]{s.Scan("", "", 0), s.Scan("a", "z", math.MaxUint64)} {
				same(t, "Scan", told, nil)
			}
			if s.Len() != 0 || s.Tables() != 0 || s.Broken() {
				t.Errorf("Len %d, Tables %d, Broken %v", s.Len(), s.Tables(), s.Broken())
			}
		}
	}
}

// P0.1: what is handed in is not changed, spare room behind it included, nor kept.
func TestArguments(t *testing.T) {
	s, d := made(t)
	room := []api.Cell{val("b", 1, "x"), val("a", 1, "y"), val("c", 1, "z")}
	before := slices.Clone(room)
	s.Put(room[:2]...)
	if !slices.Equal(room, before) {
		t.Errorf("the list is %v behind Put", room)
	}
	room[0], room[1] = val("q", 9, "q"), val("r", 9, "r")
	told(t, s, words{val("b", 1, "x"), val("a", 1, "y")}, 0)
	s.Flush()
	told(t, opened(t, d), words{val("b", 1, "x"), val("a", 1, "y")}, 0)
}

// P8.1 to P8.4: drawn calls do what the words say, call by call, on disks with and without room.
func TestDrawn(t *testing.T) {
	r := draws()
	broken := 0
	for i := range 120 {
		room := 1 << 20
		if i%3 > 0 {
			room = r.Intn(600)
		}
		d := disk.New(room)
		s := opened(t, d)
		for range 30 {
			do(t, s, d, drawAct(r, has(d).low))
			if s.Broken() || r.Intn(8) == 0 {
				if s.Broken() {
					broken++
					refused(t, s, d)
					d.Append("other", strings.Repeat("x", r.Intn(3)))
				}
				other := d.Copy()
				opsOn(other, openOps(other))
				s = opened(t, d)
				alike(t, d, other)
				agree(t, s, d)
			}
		}
	}
	if broken < 50 {
		t.Errorf("%d stores were broken", broken)
	}
}

// P8.1 to P8.4: very many cells come to be there and are found within the time that a test has.
func TestMany(t *testing.T) {
	d := disk.New(1 << 28)
	s := opened(t, d)
	const n = 20_000
	key := func(i int) string { return fmt.Sprintf("%06d", i*7919%n) }
	for i := range n {
		if m, e := s.Put(val(key(i), uint64(i+1), "x"), val("one", uint64(i+1), key(i))); m != 2 || e != api.OK {
			t.Fatalf("Put: %d, %v", m, e)
		}
		if i%2000 == 1999 {
			if e := s.Flush(); e != api.OK {
				t.Fatalf("Flush: %v", e)
			}
		}
	}
	check := func(s *tables.Store, count int) {
		t.Helper()
		if s.Len() != count {
			t.Fatalf("Len: %d, not %d", s.Len(), count)
		}
		for i := n / 2; i < n; i++ {
			a, _ := s.Get(key(i), n)
			b, _ := s.Get("one", uint64(i+1))
			if a != val(key(i), uint64(i+1), "x") || b != val("one", uint64(i+1), key(i)) {
				t.Fatalf("Get at %d: %v, %v", i+1, a, b)
			}
		}
		if got := len(slices.Collect(s.Scan("", "", n))); got != n+1 {
			t.Fatalf("Scan: %d", got)
		}
	}
	check(s, 2*n)
	if s.Tables() != 10 {
		t.Errorf("Tables: %d", s.Tables())
	}
	check(opened(t, d), 2*n)
	if e := s.Compact(n / 2); e != api.OK || s.Tables() != 1 {
		t.Errorf("Compact: %v, %d tables", e, s.Tables())
	}
	check(s, 2*n-n/2+1)
	check(opened(t, d), 2*n-n/2+1)
}
