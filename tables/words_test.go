package tables_test

import (
	"encoding/binary"
	"fmt"
	"hash/crc32"
	"iter"
	"math"
	"math/big"
	"math/rand"
	"regexp"
	"slices"
	"strings"
	"testing"

	"tessera/api"
	"tessera/cells"
	"tessera/disk"
	"tessera/tables"
)

// draws is the same row of numbers in every run, so that a failure comes back.
func draws() *rand.Rand { return rand.New(rand.NewSource(8)) }

func val(key string, time uint64, val string) api.Cell {
	return api.Cell{Key: key, Time: time, Val: val}
}

func del(key string, time uint64) api.Cell { return api.Cell{Key: key, Time: time, Del: true} }

// words is cells of which layer 7 says what is seen, as the chapter says that it does.
type words []api.Cell

func (w words) cells() *cells.Cells {
	c := cells.New()
	if n, e := c.Put(w...); n != len(w) || e != api.OK {
		panic("cells that may not be")
	}
	return c
}

func (w words) with(l ...api.Cell) words { return slices.Concat(w, words(l)).all() }

// all is the cells in order, of one key and time the last one.
func (w words) all() words { return slices.Collect(w.cells().All()) }

func (w words) scan(from, to string, t uint64) []api.Cell {
	return slices.Collect(w.cells().Scan(from, to, t))
}

func (w words) trim(below uint64) words {
	c := w.cells()
	c.Trim(below)
	return slices.Collect(c.All())
}

// num, text, laid and framed are the chapter's bytes, written another way than the program's.
func num(x uint64) string {
	b := new(big.Int).SetUint64(x).Bytes()
	return string(append([]byte{byte(len(b))}, b...))
}

func nums(l ...uint64) string {
	var out strings.Builder
	for _, x := range l {
		out.WriteString(num(x))
	}
	return out.String()
}

func text(s string) string { return num(uint64(len(s))) + s }

func laid(l ...api.Cell) string {
	out := []string{num(uint64(len(l)))}
	for _, c := range l {
		out = append(out, text(c.Key), num(c.Time), map[bool]string{true: "\x01", false: "\x00"}[c.Del], text(c.Val))
	}
	return strings.Join(out, "")
}

func framed(s string) string {
	length := binary.BigEndian.AppendUint32(nil, uint32(len(s)))
	return string(binary.BigEndian.AppendUint32(length, crc32.ChecksumIEEE([]byte(string(length)+s)))) + s
}

// frames is what the whole frames at the front of s hold, and how many bytes they are.
func frames(s string) (l []string, used int) {
	for {
		left := s[used:]
		if len(left) < 8 {
			return l, used
		}
		n := int(binary.BigEndian.Uint32([]byte(left)))
		if len(left)-8 < n || framed(left[8:8+n]) != left[:8+n] {
			return l, used
		}
		l, used = append(l, left[8:8+n]), used+8+n
	}
}

// reader takes things from the front of bytes; what is not there is zero.
type reader struct{ s string }

func (r *reader) take(n int) string {
	n = min(n, len(r.s))
	out := r.s[:n]
	r.s = r.s[n:]
	return out
}

func (r *reader) num() uint64 {
	var n int
	for _, b := range []byte(r.take(1)) {
		n = int(b)
	}
	return new(big.Int).SetBytes([]byte(r.take(n))).Uint64()
}

func (r *reader) text() string { return r.take(int(min(r.num(), 1<<30))) }

func (r *reader) cells() []api.Cell {
	var out []api.Cell
	for n := r.num(); n > 0 && r.s != ""; n-- {
		c := api.Cell{Key: r.text(), Time: r.num()}
		c.Del = r.take(1) == "\x01"
		c.Val = r.text()
		out = append(out, c)
	}
	return out
}

// had is what a disk has of a store that may be, by the chapter's words alone.
type had struct {
	tables       []int // the newest first
	next, record int
	low          uint64
	lists        [][]api.Cell // the tables' cells
	fresh        [][]api.Cell // the records' from that number on
	files        []int        // of the log, by their numbers
	counts       []int        // of each one's records
	torn         int          // bytes of the last one behind its frames
	strays       []string     // rising
}

var (
	logForm   = regexp.MustCompile(`^log/[0-9]{12}$`)
	tableForm = regexp.MustCompile(`^table/[0-9]{8}$`)
)

func logFile(n int) string   { return fmt.Sprintf("log/%012d", n) }
func tableFile(n int) string { return fmt.Sprintf("table/%08d", n) }

func has(d *disk.Disk) had {
	h := had{next: 1, record: 1}
	if bytes, e := d.Read("manifest"); e == api.OK {
		l, _ := frames(bytes)
		r := reader{l[0]}
		for range r.num() {
			h.tables = append(h.tables, int(r.num()))
		}
		h.next, h.record, h.low = int(r.num()), int(r.num()), r.num()
	}
	for _, n := range h.tables {
		bytes, _ := d.Read(tableFile(n))
		l, _ := frames(bytes)
		r := reader{l[0]}
		h.lists = append(h.lists, r.cells())
	}
	for _, name := range d.Names() {
		n := 0
		switch {
		case name == "manifest.new":
			h.strays = append(h.strays, name)
		case logForm.MatchString(name):
			fmt.Sscanf(name, "log/%d", &n)
			h.log(d, n)
		case tableForm.MatchString(name):
			fmt.Sscanf(name, "table/%d", &n)
			if n > 0 && !slices.Contains(h.tables, n) {
				h.strays = append(h.strays, name)
			}
		}
	}
	return h
}

// log takes a further file of the log in.
func (h *had) log(d *disk.Disk, n int) {
	bytes, _ := d.Read(logFile(n))
	l, used := frames(bytes)
	h.files, h.counts, h.torn = append(h.files, n), append(h.counts, len(l)), len(bytes)-used
	for i, record := range l {
		if n+i >= h.record {
			r := reader{record}
			h.fresh = append(h.fresh, r.cells())
		}
	}
}

// nextRecord is the log's Next.
func (h had) nextRecord() int {
	if len(h.files) == 0 {
		return 1
	}
	return h.files[len(h.files)-1] + h.counts[len(h.counts)-1]
}

// memory is the cells that are in no table.
func (h had) memory() words { return words(nil).with(slices.Concat(h.fresh...)...) }

// tabled is the cells of the tables, of one key and time the newest table's.
func (h had) tabled() words {
	var w words
	for _, l := range slices.Backward(h.lists) {
		w = w.with(l...)
	}
	return w
}

func (h had) cells() words { return h.tabled().with(h.memory()...) }

// op is one thing that is done to a disk.
type op struct {
	verb        string
	name, bytes string // of rename: from, to
	n           int    // of trunc
}

func (o op) on(d *disk.Disk) api.Errno {
	switch o.verb {
	case "append":
		return d.Append(o.name, o.bytes)
	case "write":
		return d.Write(o.name, o.bytes)
	case "trunc":
		return d.Trunc(o.name, o.n)
	case "rename":
		return d.Rename(o.name, o.bytes)
	case "remove":
		return d.Remove(o.name)
	}
	return d.Sync()
}

// opsOn does what is done up to the first error.
func opsOn(d *disk.Disk, ops []op) api.Errno {
	for _, o := range ops {
		if e := o.on(d); e != api.OK {
			return e
		}
	}
	return api.OK
}

// lays is how a manifest is laid.
func lays(tables []int, next, record int, low uint64) []op {
	out := num(uint64(len(tables)))
	for _, n := range tables {
		out += num(uint64(n))
	}
	out += nums(uint64(next), uint64(record), low)
	return []op{{verb: "write", name: "manifest.new", bytes: framed(out)}, {verb: "sync"}, {verb: "rename", name: "manifest.new", bytes: "manifest"}, {verb: "sync"}}
}

// act is one call of a store, as plain data.
type act struct {
	verb  string // put, sync, flush, compact
	cells []api.Cell
	below uint64
}

func puts(l ...api.Cell) act      { return act{verb: "put", cells: l} }
func syncs() act                  { return act{verb: "sync"} }
func flushes() act                { return act{verb: "flush"} }
func compacts(below uint64) act   { return act{verb: "compact", below: below} }
func (a act) isPut() bool         { return a.verb == "put" && len(a.cells) > 0 }
func (a act) String() string      { return fmt.Sprint(a.verb, " ", a.cells, " ", a.below) }
func allOf(l ...[]api.Cell) words { return words(nil).with(slices.Concat(l...)...) }

// on does it to a store.
func (a act) on(s *tables.Store) (int, api.Errno) {
	switch a.verb {
	case "put":
		return s.Put(a.cells...)
	case "sync":
		return 0, s.Sync()
	case "flush":
		return 0, s.Flush()
	}
	return 0, s.Compact(a.below)
}

// ops is what the chapter says that it does to a disk, from what the disk has alone.
func (a act) ops(d *disk.Disk) []op {
	switch a.verb {
	case "put":
		if len(a.cells) == 0 {
			return nil
		}
		return []op{putOp(has(d), a.cells)}
	case "sync":
		return []op{{verb: "sync"}}
	case "flush":
		return flushOps(has(d))
	}
	ops := flushOps(has(d))
	flushed := d.Copy()
	if opsOn(flushed, ops) != api.OK {
		return ops
	}
	return append(ops, compactOps(has(flushed), a.below)...)
}

func putOp(h had, l []api.Cell) op {
	file := h.nextRecord()
	if k := len(h.files) - 1; k >= 0 && h.counts[k] < api.MaxSegment {
		file = h.files[k]
	}
	return op{verb: "append", name: logFile(file), bytes: framed(laid(l...))}
}

func flushOps(h had) []op {
	if len(h.memory()) == 0 {
		return nil
	}
	ops := []op{{verb: "write", name: tableFile(h.next), bytes: framed(laid(h.memory().all()...))}, {verb: "sync"}}
	ops = append(ops, lays(append([]int{h.next}, h.tables...), h.next+1, h.nextRecord(), h.low)...)
	for i, n := range h.files {
		if i < len(h.files)-1 && n+h.counts[i] <= h.nextRecord() {
			ops = append(ops, op{verb: "remove", name: logFile(n)})
		}
	}
	return ops
}

func compactOps(h had, below uint64) []op {
	if len(h.tables) == 0 && below <= h.low {
		return nil
	}
	below = max(below, h.low)
	var ops []op
	var named []int
	next := h.next
	if left := h.tabled().trim(below).all(); len(left) > 0 {
		ops = []op{{verb: "write", name: tableFile(next), bytes: framed(laid(left...))}, {verb: "sync"}}
		named, next = []int{next}, next+1
	}
	ops = append(ops, lays(named, next, h.record, below)...)
	for _, n := range slices.Sorted(slices.Values(h.tables)) {
		ops = append(ops, op{verb: "remove", name: tableFile(n)})
	}
	return append(ops, op{verb: "sync"})
}

// openOps is what Open does to a disk whose log's files stand one behind the other.
func openOps(d *disk.Disk) []op {
	h := has(d)
	var ops []op
	if h.torn > 0 {
		name := logFile(h.files[len(h.files)-1])
		bytes, _ := d.Read(name)
		ops = append(ops, op{verb: "trunc", name: name, n: len(bytes) - h.torn}, op{verb: "sync"})
	}
	for _, name := range h.strays {
		ops = append(ops, op{verb: "remove", name: name})
	}
	if len(h.strays) > 0 {
		ops = append(ops, op{verb: "sync"})
	}
	return ops
}

// wrong is why a cell may not be put above a low time.
func wrong(c api.Cell, low uint64) api.Errno {
	switch {
	case len(c.Key) > api.MaxKey || len(c.Val) > api.MaxCell:
		return api.ErrLong
	case c.Key == "" || c.Time == 0 || c.Del && c.Val != "" || c.Time <= low:
		return api.ErrArg
	}
	return api.OK
}

// by does to a disk what the call does, and answers as it does; broken: whether the store is then.
func (a act) by(d *disk.Disk) (at int, e api.Errno, broken bool) {
	low := has(d).low
	for i, c := range a.cells {
		if e := wrong(c, low); e != api.OK {
			return i, e, false
		}
	}
	if len(laid(a.cells...)) > api.MaxRecord {
		return 0, api.ErrLong, false
	}
	if e := opsOn(d, a.ops(d)); e != api.OK {
		return 0, e, true
	}
	return len(a.cells), api.OK, false
}

// same fails unless an iterator tells these cells, each time, and as many of them as are asked for.
func same(t *testing.T, what string, told iter.Seq[api.Cell], want []api.Cell) {
	t.Helper()
	for range 2 {
		if got := slices.Collect(told); !slices.Equal(got, want) {
			t.Fatalf("%s: %v, not %v", what, brief(got), brief(want))
		}
	}
	var got []api.Cell
	for c := range told {
		got = append(got, c)
		if len(got) > len(want)/2 {
			break
		}
	}
	if !slices.Equal(got, want[:len(got)]) || len(got) <= len(want)/2 && len(want) > 0 {
		t.Fatalf("%s, left early: %v of %v", what, brief(got), brief(want))
	}
}

// brief is the beginning of what may be very long.
func brief(x any) string {
	s := fmt.Sprintf("%.40v", x)
	return s[:min(len(s), 400)]
}

// told fails unless a store tells these cells by all of its calls.
func told(t *testing.T, s *tables.Store, w words, low uint64) {
	t.Helper()
	if s.Len() != len(w) {
		t.Fatalf("Len: %d, not %d", s.Len(), len(w))
	}
	times := []uint64{0, 1, low - 1, low, low + 1, math.MaxUint64}
	keys := []string{"", "a", "zz", strings.Repeat("k", api.MaxKey+1)}
	for _, c := range w {
		times = append(times, c.Time-1, c.Time, c.Time+1)
		keys = append(keys, c.Key, c.Key+"\x00")
	}
	slices.Sort(times)
	slices.Sort(keys)
	times, keys = slices.Compact(times), slices.Compact(keys)
	for _, time := range times {
		seen := w.cells()
		if time < low {
			seen = cells.New()
		}
		for _, key := range keys {
			want, is := seen.Get(key, time)
			if got, there := s.Get(key, time); got != want || there != is {
				t.Fatalf("Get(%.20q, %d) above %d: %v, %v, not %v, %v", key, time, low, brief(got), there, brief(want), is)
			}
		}
		same(t, "Scan of all", s.Scan("", "", time), slices.Collect(seen.Scan("", "", time)))
		from, to := keys[len(keys)/3], keys[2*len(keys)/3]
		for _, ends := range [][2]string{{from, ""}, {from, to}, {"", to}, {to, from}, {from, from}} {
			same(t, "Scan", s.Scan(ends[0], ends[1], time), slices.Collect(seen.Scan(ends[0], ends[1], time)))
		}
	}
}

// agree fails unless a store tells what its disk has.
func agree(t *testing.T, s *tables.Store, d *disk.Disk) {
	t.Helper()
	h := has(d)
	if s.Tables() != len(h.tables) {
		t.Fatalf("Tables: %d, not %d", s.Tables(), len(h.tables))
	}
	told(t, s, h.cells(), h.low)
}

// alike fails unless two disks are the same, and by each crash of one thing less, too.
func alike(t *testing.T, d, other *disk.Disk) {
	t.Helper()
	if !disk.Same(d, other) {
		t.Fatalf("files %q, %d loose; by the words %q, %d loose", d.Names(), d.Loose(), other.Names(), other.Loose())
	}
	if n := d.Loose(); n > 0 {
		a, b := d.Copy(), other.Copy()
		a.Crash(n-1, 3)
		b.Crash(n-1, 3)
		if !disk.Same(a, b) {
			t.Fatalf("what was done last is not the same: files %q, by the words %q", a.Names(), b.Names())
		}
	}
}

// opened is a store that must be allowed.
func opened(t *testing.T, d *disk.Disk) *tables.Store {
	t.Helper()
	s, e := tables.Open(d)
	if e != api.OK || s == nil || s.Broken() {
		t.Fatalf("Open: %v, %v", s, e)
	}
	return s
}

// do does acts to a store and to a copy of its disk by the words, and holds both against
// each other behind each one; it says whether the store is broken at the end.
func do(t *testing.T, s *tables.Store, d *disk.Disk, acts ...act) bool {
	t.Helper()
	for _, a := range acts {
		if s.Broken() {
			refused(t, s, d)
			continue
		}
		other := d.Copy()
		m, f, broken := a.by(other)
		if n, e := a.on(s); n != m || e != f || s.Broken() != broken {
			t.Fatalf("%s: %d, %v, broken %v, not %d, %v, %v", brief(a), n, e, s.Broken(), m, f, broken)
		}
		alike(t, d, other)
		agree(t, s, d)
	}
	return s.Broken()
}

// refused fails unless a broken store changes nothing any more, and tells what it told.
func refused(t *testing.T, s *tables.Store, d *disk.Disk) {
	t.Helper()
	before, n, m := d.Copy(), s.Len(), s.Tables()
	for _, a := range []act{puts(), puts(val("k", math.MaxUint64, "x")), puts(api.Cell{}), syncs(), flushes(), compacts(0), compacts(math.MaxUint64)} {
		if at, e := a.on(s); at != 0 || e != api.ErrState {
			t.Fatalf("%s of a broken store: %d, %v", brief(a), at, e)
		}
	}
	if disk.Same(d, d) {
		alike(t, d, before)
	}
	if !s.Broken() || s.Len() != n || s.Tables() != m {
		t.Fatalf("a broken store is not what it was")
	}
}

// made is a store on a new disk, behind these acts.
func made(t *testing.T, acts ...act) (*tables.Store, *disk.Disk) {
	t.Helper()
	d := disk.New(1 << 20)
	s := opened(t, d)
	if do(t, s, d, acts...) {
		t.Fatalf("it is broken")
	}
	return s, d
}

// drawCells is up to n cells of few keys, above a time.
func drawCells(r *rand.Rand, n int, above uint64) []api.Cell {
	var out []api.Cell
	for range r.Intn(n + 1) {
		key, time := string(rune('a'+r.Intn(3)))+strings.Repeat("\x00", r.Intn(2)), above+1+uint64(r.Intn(4))
		if r.Intn(4) == 0 {
			out = append(out, del(key, time))
		} else {
			out = append(out, val(key, time, strings.Repeat(string(rune('0'+r.Intn(10))), r.Intn(3))))
		}
	}
	return out
}

// drawAct is a call at or about a store's low time.
func drawAct(r *rand.Rand, low uint64) act {
	switch r.Intn(10) {
	case 0:
		return syncs()
	case 1, 2:
		return flushes()
	case 3:
		return compacts(low + uint64(r.Intn(4)) - min(low, 1))
	case 4:
		return puts(drawCells(r, 4, low-min(low, 1))...)
	}
	return puts(drawCells(r, 4, low)...)
}
