package tables_test

import (
	"math"
	"slices"
	"strings"
	"testing"

	"tessera/api"
	"tessera/disk"
	"tessera/tables"
)

// one is a file of a disk.
type one struct{ name, bytes string }

// with is a disk with these files, synced.
func with(files ...one) *disk.Disk {
	d := disk.New(1 << 26)
	for _, f := range files {
		d.Write(f.name, f.bytes)
	}
	d.Sync()
	return d
}

// table and records are files of a store.
func table(n int, l ...api.Cell) one { return one{tableFile(n), framed(laid(l...))} }

func records(n int, l ...string) one {
	var out strings.Builder
	for _, record := range l {
		out.WriteString(framed(record))
	}
	return one{logFile(n), out.String()}
}

func manifests(numbers ...uint64) one { return one{"manifest", framed(nums(numbers...))} }

// P8.1: a disk that is not there, or that New did not make, is ErrNil.
func TestOpenNoDisk(t *testing.T) {
	for _, d := range []*disk.Disk{nil, {}} {
		if s, e := tables.Open(d); s != nil || e != api.ErrNil {
			t.Errorf("Open: %v, %v", s, e)
		}
	}
}

// P8.1: a disk without files is a store of no cells, to which nothing was done.
func TestOpenEmpty(t *testing.T) {
	for _, d := range []*disk.Disk{disk.New(0), disk.New(1 << 20), with(one{"other", "x"})} {
		other := d.Copy()
		s := opened(t, d)
		alike(t, d, other)
		agree(t, s, d)
		if s.Len() != 0 || s.Tables() != 0 {
			t.Errorf("Len %d, Tables %d", s.Len(), s.Tables())
		}
	}
}

// fails holds Open to an error, which changes nothing; what else is to be made clean stays as well.
func fails(t *testing.T, why string, e api.Errno, files ...one) {
	t.Helper()
	d := with(files...)
	dirty := d.Copy()
	dirty.Write("table/00000077", "x")
	dirty.Append("manifest.new", "x")
	dirty.Sync()
	dirty.Append("loose", "x")
	torn := d.Copy()
	h := has(with(slices.DeleteFunc(slices.Clone(files), func(f one) bool { return !logForm.MatchString(f.name) })...))
	if len(h.files) > 0 {
		torn.Append(logFile(h.files[len(h.files)-1]), "torn")
	}
	for _, c := range []*disk.Disk{d, dirty, torn} {
		other := c.Copy()
		if s, f := tables.Open(c); s != nil || f != e {
			t.Errorf("%s: %v, %v, not %v", why, s, f, e)
		}
		alike(t, c, other)
	}
}

// P8.1: which manifests are none, and which are, with two tables and three records.
func TestManifest(t *testing.T) {
	files := []one{
		table(3, val("a", 9, "new"), val("b", 1, "x")), table(1, val("a", 9, "old"), val("c", 1, "y")),
		records(1, laid(val("r", 1, "")), laid(val("r", 2, "")), laid(val("r", 3, ""))),
	}
	numbers := func(l ...uint64) string { return framed(nums(l...)) }
	for _, c := range []struct {
		why, bytes string
	}{
		{"of no bytes", ""}, {"of no frame", "none"}, {"of a short head", "\x00\x00\x00\x00\x00\x00\x00"},
		{"a frame of another sum", numbers(2, 3, 1, 4, 1, 0)[:12] + "\x05" + numbers(2, 3, 1, 4, 1, 0)[13:]},
		{"a frame that is cut off", numbers(2, 3, 1, 4, 1, 0)[:16]},
		{"a byte behind the frame", numbers(2, 3, 1, 4, 1, 0) + "\x00"},
		{"two frames", numbers(2, 3, 1, 4, 1, 0) + numbers(2, 3, 1, 4, 1, 0)},
		{"no frame around it", nums(2, 3, 1, 4, 1, 0)},
		{"a frame of no bytes", framed("")}, {"no next number", numbers(0)}, {"no record's number", numbers(0, 1)}, {"no low time", numbers(0, 1, 1)},
		{"a number too much", numbers(0, 1, 1, 0, 0)}, {"a byte too much", framed(nums(0, 1, 1, 0) + "\x01")},
		{"a table too few", numbers(2, 3, 4, 1, 0)}, {"a table too many", numbers(1, 3, 1, 4, 1, 0)},
		{"very many tables", numbers(math.MaxUint64, 3, 1, 4, 1, 0)},
		{"a number that is not in its form", framed(nums(0, 1, 1) + "\x01\x00")}, {"a number of nine bytes", framed(nums(0, 1, 1) + "\x09123456789")},
		{"a table's number 0", numbers(1, 0, 4, 1, 0)}, {"a table's number 0 of two", numbers(2, 3, 0, 4, 1, 0)},
		{"twice the same", numbers(2, 3, 3, 4, 1, 0)}, {"twice the same, apart", numbers(3, 3, 1, 3, 4, 1, 0)},
		{"a table at the next number", numbers(2, 3, 1, 3, 1, 0)}, {"a table above the next number", numbers(2, 3, 1, 2, 1, 0)}, {"both above", numbers(2, 3, 1, 1, 1, 0)},
		{"a next number 0", numbers(2, 3, 1, 0, 1, 0)}, {"a next number 0 without tables", numbers(0, 0, 1, 0)},
		{"a table that is not there", numbers(1, 2, 4, 1, 0)}, {"the last one is not there", numbers(3, 3, 1, 2, 4, 1, 0)},
		{"a table's number of nine digits", numbers(1, 100000000, 100000001, 1, 0)}, {"a table's number of twenty digits", numbers(1, math.MaxUint64-1, math.MaxUint64, 1, 0)},
		{"a record's number 0", numbers(2, 3, 1, 4, 0, 0)}, {"a record's number above Next", numbers(2, 3, 1, 4, 5, 0)}, {"a record's number far above", numbers(2, 3, 1, 4, math.MaxUint64, 0)},
	} {
		fails(t, c.why, api.ErrManifest, append(slices.Clone(files), one{"manifest", c.bytes}, one{"table/100000000", files[0].bytes}, one{"table/00000000", files[0].bytes})...)
	}
	for _, c := range []struct {
		why     string
		numbers []uint64
		left    words
		low     uint64
	}{
		{"both tables and all records", []uint64{2, 3, 1, 4, 1, 0}, words{val("a", 9, "new"), val("b", 1, "x"), val("c", 1, "y"), val("r", 1, ""), val("r", 2, ""), val("r", 3, "")}, 0},
		{"the other one is the newest", []uint64{2, 1, 3, 4, 4, 0}, words{val("a", 9, "old"), val("b", 1, "x"), val("c", 1, "y")}, 0},
		{"one table", []uint64{1, 1, 2, 3, 0}, words{val("a", 9, "old"), val("c", 1, "y"), val("r", 3, "")}, 0},
		{"no tables", []uint64{0, 1, 2, 0}, words{val("r", 2, ""), val("r", 3, "")}, 0},
		{"nothing, and a low time", []uint64{0, 9, 4, 7}, nil, 7},
		{"the greatest low time", []uint64{1, 3, 4, 4, math.MaxUint64}, words{val("a", 9, "new"), val("b", 1, "x")}, math.MaxUint64},
		{"a great next number", []uint64{1, 3, math.MaxUint64, 4, 5}, words{val("a", 9, "new"), val("b", 1, "x")}, 5},
		{"records at and below the low time", []uint64{1, 3, 4, 1, 2}, words{val("a", 9, "new"), val("b", 1, "x"), val("r", 1, ""), val("r", 2, ""), val("r", 3, "")}, 2},
	} {
		d := with(append(slices.Clone(files), manifests(c.numbers...))...)
		s := opened(t, d)
		told(t, s, c.left, c.low)
		if s.Tables() != int(c.numbers[0]) {
			t.Errorf("%s: %d tables", c.why, s.Tables())
		}
		agree(t, s, d)
	}
}

// P8.1: each byte of a manifest turned is found out.
func TestManifestTurned(t *testing.T) {
	whole := manifests(1, 3, 4, 1, 300).bytes
	for i := range len(whole) {
		for _, b := range []byte{1, 2, 128, 255} {
			fails(t, "a turned byte", api.ErrManifest, table(3, val("a", 1, "")), one{"manifest", whole[:i] + string([]byte{whole[i] ^ b}) + whole[i+1:]})
		}
		fails(t, "a byte less", api.ErrManifest, table(3, val("a", 1, "")), one{"manifest", whole[:i] + whole[i+1:]})
	}
}

// P8.1: a manifest's number of a record, and a log that begins further on; without a file that number is 1.
func TestManifestAndLog(t *testing.T) {
	log := records(33, laid(val("r", 1, "")), laid(val("r", 2, "")))
	empty := records(33)
	fails(t, "no manifest", api.ErrManifest, log)
	fails(t, "no manifest, and no records", api.ErrManifest, empty)
	for _, n := range []uint64{0, 1, 32, 36, 37, math.MaxUint64} {
		fails(t, "a wrong number", api.ErrManifest, log, manifests(0, 1, n, 0))
	}
	for n, want := range map[uint64]words{33: {val("r", 1, ""), val("r", 2, "")}, 34: {val("r", 2, "")}, 35: nil} {
		d := with(log, manifests(0, 1, n, 0))
		told(t, opened(t, d), want, 0)
	}
	fails(t, "a wrong number", api.ErrManifest, empty, manifests(0, 1, 34, 0))
	told(t, opened(t, with(empty, manifests(0, 1, 33, 0))), nil, 0)
	fails(t, "a number without a log", api.ErrManifest, manifests(0, 1, 2, 0))
	told(t, opened(t, with(manifests(0, 1, 1, 0))), nil, 0)
	// what a crash has torn off the log is not counted
	d := with(records(1, laid(val("r", 1, "")), laid(val("r", 2, ""))), manifests(0, 1, 3, 0))
	d.Trunc(logFile(1), len(framed(laid(val("r", 1, ""))))+9)
	before := d.Copy()
	if s, e := tables.Open(d); s != nil || e != api.ErrManifest {
		t.Errorf("a torn record: %v, %v", s, e)
	}
	alike(t, d, before)
}

// P8.1: a table that is none, each of those that the manifest names, but of no other.
func TestOpenTable(t *testing.T) {
	good := []api.Cell{val("k", 5, "a"), val("l", 1, "")}
	for _, bytes := range []string{
		"", "x", framed(""), laid(good...), framed(laid(good...) + "\x00"), framed(laid(good...)) + "\x00", framed(laid(val("k", 3, ""), val("k", 5, ""))),
		framed(laid(val("k", 3, ""), val("k", 3, ""))), framed(laid(val("", 3, ""))), framed(laid(val("k", 0, ""))),
	} {
		bad := one{tableFile(2), bytes}
		fails(t, "the first table", api.ErrTable, manifests(2, 2, 1, 3, 1, 0), table(1, good...), bad)
		fails(t, "the last table", api.ErrTable, manifests(2, 3, 2, 4, 1, 0), table(3, good...), bad)
		fails(t, "with one that is not there", api.ErrManifest, manifests(2, 2, 1, 3, 1, 0), bad)
		fails(t, "with a wrong record's number", api.ErrManifest, manifests(1, 2, 3, 2, 0), bad)
		fails(t, "with a manifest that is none", api.ErrManifest, manifests(1, 2, 2, 1, 0), bad)
		told(t, opened(t, with(manifests(1, 1, 3, 1, 0), table(1, good...), bad)), good, 0)
		told(t, opened(t, with(bad)), nil, 0)
	}
	told(t, opened(t, with(manifests(2, 2, 1, 3, 1, 0), table(1), table(2, good...))), good, 0)
}

// P8.1: a record from the manifest's number on that is no cells that may be; ahead of it nothing is read.
func TestOpenRecord(t *testing.T) {
	fine := laid(val("k", 5, "a"))
	bad := []string{
		"", "x", "\x01", "\x01\x02" + fine[2:], "\x00" + fine[2:], fine + "\x00", fine[:len(fine)-1], framed(fine), fine + fine,
		"\x08\xff\xff\xff\xff\xff\xff\xff\xff" + fine[2:], strings.Replace(fine, "\x00", "\x02", 1), strings.Replace(fine, "\x00", "\x01", 1),
	}
	for _, c := range wrongs() {
		bad = append(bad, laid(c), laid(val("k", 5, ""), c), laid(c, val("k", 5, "")))
	}
	for _, record := range bad {
		fails(t, "the first record", api.ErrTable, records(1, record, fine))
		fails(t, "the last record", api.ErrTable, records(1, fine, record))
		fails(t, "the record of the number", api.ErrTable, records(1, fine, record, fine), manifests(0, 1, 2, 0))
		fails(t, "with a manifest that is none", api.ErrManifest, records(1, fine, record), manifests(0, 0, 1, 0))
		fails(t, "with a table that is not there", api.ErrManifest, records(1, fine, record), manifests(1, 1, 2, 1, 0))
		d := with(records(1, record, record, fine), manifests(0, 1, 3, 0))
		other := d.Copy()
		told(t, opened(t, d), words{val("k", 5, "a")}, 0)
		alike(t, d, other)
	}
	// in their order, two alike, more than one, none
	d := with(records(1, laid(val("k", 3, "b"), val("k", 5, "a"), val("a", 1, "x")), laid(val("k", 3, "c"), val("k", 3, "d")), laid()))
	told(t, opened(t, d), words{val("k", 3, "d"), val("k", 5, "a"), val("a", 1, "x")}, 0)
	// such a record of none is one that Flush need not make a table of
	d = with(records(1, laid()))
	s := opened(t, d)
	if e := s.Flush(); e != api.OK || s.Tables() != 0 || d.Loose() != 0 {
		t.Errorf("Flush of no cells: %v, %d tables", e, s.Tables())
	}
	do(t, s, d, puts(val("k", 5, "a")), flushes())
}

// P8.1: files that the manifest does not name go, by names rising, with a Sync behind; other names stay.
func TestSweep(t *testing.T) {
	stay := []string{
		"manifest", "manifest.new.new", "manifest.", "manifest.ne", "Manifest.new", "new", "table", "table/", "table/1", "table/0000001", "table/000000002", "table/00000000", "table/100000000",
		"table/0000000a", "table/+0000001", "table/-0000001", "table/ 0000001", "table/0000001 ", "table/0x000001", "table/0000_001", "table/00000001/", "table/00000001\x00",
		"table//0000001", "tables/00000001", "tabl/00000001", "TABLE/00000001", "xtable/00000001", "/00000001", "00000001", "table00000001", "table/0000001.", "table/٠٠٠٠", "log/1", "log", "table/00000002",
	}
	strays := []string{"manifest.new", "table/00000001", "table/00000003", "table/00000010", "table/99999999"}
	var files []one
	for _, name := range stay {
		files = append(files, one{name, "x"})
	}
	base := append(files, manifests(1, 2, 7, 1, 3), table(2, val("k", 5, "a")))
	d := with(base...)
	d.Append("loose", "x")
	other := d.Copy()
	told(t, opened(t, d), words{val("k", 5, "a")}, 3)
	alike(t, d, other) // nothing was removed, so nothing is synced
	for mask := 1; mask < 1<<len(strays); mask++ {
		d := with(base...)
		var want []op
		for i, name := range strays {
			if mask>>i&1 == 1 {
				d.Write(name, "stray")
				want = append(want, op{verb: "remove", name: name})
			}
		}
		other := d.Copy()
		if got := openOps(d); !slices.Equal(got, append(want, op{verb: "sync"})) {
			t.Fatalf("%v is to be done, not %v", got, want)
		}
		opsOn(other, openOps(d))
		s := opened(t, d)
		alike(t, d, other)
		agree(t, s, d)
		if d.Loose() != 0 || !slices.Equal(d.Names(), slices.Sorted(slices.Values(stay))) {
			t.Errorf("%d loose, the files %q", d.Loose(), d.Names())
		}
		told(t, opened(t, d), words{val("k", 5, "a")}, 3)
		alike(t, d, other)
	}
}

// P8.1: without a manifest all tables go; the log is made clean by layer 6's words.
func TestSweepAll(t *testing.T) {
	d := with(table(1, val("k", 5, "a")), table(2, val("k", 6, "b")), one{"manifest.new", manifests(1, 1, 2, 1, 0).bytes}, records(1, laid(val("r", 1, "x"))))
	d.Append(logFile(1), "torn")
	d.Append(logFile(7), framed(laid(val("r", 7, "y"))))
	told(t, opened(t, d), words{val("r", 1, "x")}, 0)
	if got := d.Names(); !slices.Equal(got, []string{logFile(1)}) || d.Loose() != 0 {
		t.Errorf("%d loose, the files %q", d.Loose(), got)
	}
	if got, _ := d.Read(logFile(1)); got != framed(laid(val("r", 1, "x"))) {
		t.Errorf("the log is %q", got)
	}
}

// P8.1: what is opened goes on: a further table has the manifest's next number, a further record the log's.
func TestOpenGoesOn(t *testing.T) {
	d := with(manifests(1, 2, 7, 2, 3), table(2, val("k", 5, "a")), records(1, "none of ours", laid(val("r", 4, "x"))))
	s := opened(t, d)
	do(t, s, d, puts(val("k", 6, "b")), puts(val("k", 3, "low")), flushes(), puts(val("k", 7, "c"), del("r", 7)))
	if h := has(d); !slices.Equal(h.tables, []int{7, 2}) || h.next != 8 || h.record != 4 || h.low != 3 {
		t.Errorf("the manifest is %v", h)
	}
	do(t, opened(t, d), d, compacts(0), puts(val("z", 9, "")))
	if h := has(d); !slices.Equal(h.tables, []int{9}) || h.next != 10 || h.record != 5 || h.low != 3 {
		t.Errorf("the manifest is %v", h)
	}
	agree(t, opened(t, d), d)
}
