package wal_test

import (
	"slices"
	"strings"
	"testing"

	"tessera/api"
	"tessera/disk"
	"tessera/wal"
)

// P6.1: names have 1 to 64 bytes, any but a /; a wrong one does nothing to the disk.
func TestNames(t *testing.T) {
	long := strings.Repeat("n", 64)
	for _, name := range []string{"a", "log", "\x00", "\xff\xfe", " ", ".", "000000000001", "a\nb", "é", long} {
		d := disk.New(1000)
		w := opened(t, d, name)
		do(t, w, d, name, appends("x", ""))
		if got := d.Names(); !slices.Equal(got, []string{name + "/000000000001"}) {
			t.Errorf("Open(%q): the files %q", name, got)
		}
	}
	for _, name := range []string{"", long + "n", strings.Repeat("n", 1<<16), "/", "a/b", "/a", "a/", long[1:] + "/", "a/b/c", "//"} {
		d := disk.New(1000)
		d.Append("a/000000000001", "torn")
		d.Append(name+"/000000000001", "torn")
		other := d.Copy()
		if w, e := wal.Open(d, name); w != nil || e != api.ErrArg {
			t.Errorf("Open(%q): %v, %v", brief(name), w, e)
		}
		alike(t, d, other)
	}
}

// P6.1: a disk that is not there is ErrNil, ahead of a wrong name.
func TestNoDisk(t *testing.T) {
	for _, d := range []*disk.Disk{nil, {}} {
		for _, name := range []string{"log", "", "a/b"} {
			if w, e := wal.Open(d, name); w != nil || e != api.ErrNil {
				t.Errorf("Open(%q) without a disk: %v, %v", name, w, e)
			}
		}
	}
}

// P6.1: of a disk without files of the wal First and Next are 1, and nothing is done.
func TestOpenNothing(t *testing.T) {
	d := disk.New(100)
	told(t, opened(t, d, "log"), 1, nil)
	d.Append("other", "x")
	other := d.Copy()
	told(t, opened(t, d, "log"), 1, nil)
	alike(t, d, other)
}

// one is a file of a disk, by its whole name.
type one struct{ name, bytes string }

// P6.1: names that are not quite of the form are no files of the wal: neither read nor removed.
func TestNotTheForm(t *testing.T) {
	bytes := framed("x")
	for _, name := range []string{
		"log", "log/", "log/1", "log/00000000001", "log/0000000000001", "log/0000000000033", "log/1000000000000", "log/100000000000000000000000000000000",
		"log/000000000000", "log/00000000000a", "log/a00000000001", "log/+00000000001", "log/-00000000001", "log/ 00000000001",
		"log/00000000001 ", "log/0x0000000001", "log/0000000_0001", "log/00000000001\x00", "log/0000000001.0", "log/000000000001/",
		"log/٠٠٠٠٠١", "log//00000000001", "log/log/000000000001", "logs/000000000001", "lo/000000000001", "/000000000001",
		"000000000001", "xlog/000000000001", "LOG/000000000001", "log000000000001", "log\x00000000000001",
	} {
		d := disk.New(10000)
		d.Append(name, bytes)
		other := d.Copy()
		w := opened(t, d, "log")
		told(t, w, 1, nil)
		alike(t, d, other)
		w.Append("a", "b")
		if got, e := d.Read(name); got != bytes || e != api.OK {
			t.Errorf("%q: %q, %v behind an Append", name, got, e)
		}
		if got, e := d.Read("log/000000000001"); got != framed("a", "b") || e != api.OK {
			t.Errorf("%q: the wal's file is %q, %v", name, got, e)
		}
		d.Append("log/000000000003", "torn")
		told(t, opened(t, d, "log"), 1, []string{"a", "b"})
		if got, e := d.Read(name); got != bytes || e != api.OK {
			t.Errorf("%q: %q, %v behind an Open that removes", name, got, e)
		}
	}
}

// P6.1: what a disk has, by files that are full, short, torn, too long, apart.
func TestWhatADiskHas(t *testing.T) {
	full := func(n int) string { return framed(rising(n, n+31)...) }
	file := func(n int, bytes string) one { return one{path("log", n), bytes} }
	flipped := func(s string) string { return s[:len(s)-1] + string(s[len(s)-1]^1) }
	for _, c := range []struct {
		why         string
		files       []one
		first, next int
		left        []one // nil: as they were, and not synced
	}{
		{"one file", []one{file(1, framed("r1", "r2"))}, 1, 3, nil},
		{"one file of no bytes", []one{file(1, "")}, 1, 1, nil},
		{"one file of no bytes further on", []one{file(7, "")}, 7, 7, nil},
		{"one file further on", []one{file(7, framed(rising(7, 9)...))}, 7, 10, nil},
		{"the greatest number", []one{file(999999999999, framed(rising(999999999999, 1000000000001)...))}, 999999999999, 1000000000002, nil},
		{"of 31", []one{file(1, framed(rising(1, 31)...))}, 1, 32, nil},
		{"of 32", []one{file(1, full(1))}, 1, 33, nil},
		{"of 33", []one{file(1, full(1)+framed("x"))}, 1, 33, []one{file(1, full(1))}},
		{"of 64", []one{file(1, full(1)+full(33))}, 1, 33, []one{file(1, full(1))}},
		{"of 32 and a byte", []one{file(1, full(1)+"x")}, 1, 33, []one{file(1, full(1))}},
		{"a frame of no bytes behind 32", []one{file(1, full(1)+framed(""))}, 1, 33, []one{file(1, full(1))}},
		{"two files", []one{file(1, full(1)), file(33, framed("r33"))}, 1, 34, nil},
		{"two files, the last one of no bytes", []one{file(1, full(1)), file(33, "")}, 1, 33, nil},
		{"two files, not from 1 on", []one{file(4, full(4)), file(36, framed("r36"))}, 4, 37, nil},
		{"two full files", []one{file(1, full(1)), file(33, full(33))}, 1, 65, nil},
		{"three files", []one{file(1, full(1)), file(33, full(33)), file(65, framed("r65"))}, 1, 66, nil},
		{"more than 32 in one of two", []one{file(1, full(1)+framed("r33")), file(33, framed("r33"))}, 1, 33, []one{file(1, full(1))}},
		{"a byte behind the first of two", []one{file(1, full(1)+"x"), file(33, framed("r33"))}, 1, 33, []one{file(1, full(1))}},
		{"a byte behind the second of three", []one{file(1, full(1)), file(33, full(33)+"x"), file(65, framed("r65"))}, 1, 65, []one{file(1, full(1)), file(33, full(33))}},
		{"fewer in the first of two", []one{file(1, framed(rising(1, 31)...)), file(32, framed("r32"))}, 1, 32, []one{file(1, framed(rising(1, 31)...))}},
		{"fewer in the first, the other where it would be", []one{file(1, framed("r1")), file(33, framed("r33"))}, 1, 2, []one{file(1, framed("r1"))}},
		{"none in the first of two", []one{file(1, ""), file(2, framed("r2"))}, 1, 1, []one{file(1, "")}},
		{"a gap of one", []one{file(1, full(1)), file(34, framed("r34"))}, 1, 33, []one{file(1, full(1))}},
		{"a gap of a file", []one{file(1, full(1)), file(65, full(65)), file(97, "")}, 1, 33, []one{file(1, full(1))}},
		{"a gap behind two", []one{file(1, full(1)), file(33, full(33)), file(98, full(98))}, 1, 65, []one{file(1, full(1)), file(33, full(33))}},
		{"a file that lies over the end of the one ahead", []one{file(1, full(1)), file(32, framed("r32"))}, 1, 33, []one{file(1, full(1))}},
		{"a file that lies within the one ahead of the next one", []one{file(1, full(1)), file(10, full(10)), file(33, framed("r33"))}, 1, 34, []one{file(1, full(1)), file(33, framed("r33"))}},
		{"such a file, and one behind it by its own number", []one{file(1, full(1)), file(10, full(10)), file(42, framed("r42"))}, 1, 33, []one{file(1, full(1))}},
		{"such a file, and a torn last one", []one{file(1, full(1)), file(10, full(10)), file(33, framed("r33")+"torn")}, 1, 34, []one{file(1, full(1)), file(33, framed("r33"))}},
		{"a torn head", []one{file(1, framed("r1", "r2")[:13])}, 1, 2, []one{file(1, framed("r1"))}},
		{"a torn body", []one{file(1, framed("r1", "r2")[:19])}, 1, 2, []one{file(1, framed("r1"))}},
		{"a torn first frame", []one{file(1, framed("r1")[:9])}, 1, 1, []one{file(1, "")}},
		{"a wrong sum", []one{file(1, framed("r1")+flipped(framed("r2"))+framed("r3"))}, 1, 2, []one{file(1, framed("r1"))}},
		{"a wrong length", []one{file(1, framed("r1")+"\xff"+framed("r2")[1:])}, 1, 2, []one{file(1, framed("r1"))}},
		{"torn in the last of two", []one{file(1, full(1)), file(33, framed("r33", "r34")[:19])}, 1, 34, []one{file(1, full(1)), file(33, framed("r33"))}},
		{"torn in the first of two", []one{file(1, full(1)[:len(full(1))-1]), file(33, framed("r33"))}, 1, 32, []one{file(1, framed(rising(1, 31)...))}},
		{"torn in the middle of three", []one{file(1, full(1)), file(33, full(33)[:15]), file(65, framed("r65"))}, 1, 34, []one{file(1, full(1)), file(33, framed("r33"))}},
		{"a wrong sum in the first of two", []one{file(1, flipped(full(1))), file(33, framed("r33"))}, 1, 32, []one{file(1, framed(rising(1, 31)...))}},
	} {
		d := disk.New(1 << 20)
		for _, f := range c.files {
			d.Append(f.name, f.bytes)
		}
		d.Append("other", "x")
		loose := d.Loose()
		w := opened(t, d, "log")
		if w.First() != c.first || w.Next() != c.next {
			t.Errorf("%s: %d to %d, not %d to %d", c.why, w.First(), w.Next(), c.first, c.next)
			continue
		}
		told(t, w, c.first, rising(c.first, c.next-1))
		left := c.files
		if c.left != nil {
			left, loose = c.left, 0
		}
		if d.Loose() != loose {
			t.Errorf("%s: %d loose, not %d", c.why, d.Loose(), loose)
		}
		d.Crash(loose, 0)
		if got := of(d, "log/"); !slices.Equal(got, left) {
			t.Errorf("%s: the files %q, not %q", c.why, got, left)
		}
		if _, e := d.Read("other"); e != api.OK {
			t.Errorf("%s: another file is not there: %v", c.why, e)
		}
	}
}

// of is the files whose names begin so.
func of(d *disk.Disk, front string) []one {
	var out []one
	for _, name := range d.Names() {
		if strings.HasPrefix(name, front) {
			bytes, _ := d.Read(name)
			out = append(out, one{name, bytes})
		}
	}
	return out
}

// P6.1: of a clean disk nothing is done, nor made fast; of one that is not, all is.
func TestOpenSyncs(t *testing.T) {
	w, d := made(t, 40)
	loose := d.Loose()
	opened(t, d, "log")
	if d.Loose() != loose || loose == 0 {
		t.Errorf("Open of a clean disk: %d loose, not %d", d.Loose(), loose)
	}
	for _, c := range []struct {
		why  string
		mess func()
	}{
		{"bytes behind the frames", func() { d.Append("log/000000000033", "x") }},
		{"a file that is not its own", func() { d.Append("log/000000000099", "x") }},
		{"a file of no bytes that is not its own", func() { d.Append("log/000000000002", "") }},
	} {
		w.Append("y")
		c.mess()
		told(t, opened(t, d, "log"), 1, slices.Collect(seconds(w)))
		if d.Loose() != 0 {
			t.Errorf("%s: %d loose", c.why, d.Loose())
		}
		d.Crash(0, 0)
		agree(t, w, d, "log")
	}
}

// seconds is what All tells, without the numbers.
func seconds(w *wal.Wal) func(func(string) bool) {
	return func(yield func(string) bool) {
		for _, s := range w.All() {
			if !yield(s) {
				return
			}
		}
	}
}

// P6.1: two wals of a disk have nothing to do with each other, though one's name begins the other's.
func TestTwoNames(t *testing.T) {
	d := disk.New(1 << 16)
	for _, name := range []string{"log", "log2", "lo", "l"} {
		w := opened(t, d, name)
		do(t, w, d, name, appends(rising(1, 35)...), drops(34), cuts(34), appends(name))
	}
	d.Append("log2/000000000099", "torn")
	for _, name := range []string{"log", "log2", "lo", "l"} {
		told(t, opened(t, d, name), 33, []string{"r33", name})
		if _, e := d.Read("log2/000000000099"); (e == api.OK) != (name == "log") {
			t.Errorf("Open(%q): %v of another wal's file", name, e)
		}
	}
}

// P6.1: a record of a file may be longer than one that Append takes: it stands in a whole frame.
func TestOpenLong(t *testing.T) {
	d := disk.New(1 << 25)
	long := strings.Repeat("x", api.MaxRecord+1)
	d.Append("log/000000000001", framed("a", long, "b"))
	told(t, opened(t, d, "log"), 1, []string{"a", long, "b"})
}

// P6.1: drawn disks are opened as the words say, and cleaned so.
func TestOpenDrawn(t *testing.T) {
	r := draws()
	for range 600 {
		d := disk.New(1 << 20)
		n := 1 + r.Intn(3)
		for range r.Intn(4) {
			count := []int{0, 1, 31, 32, 32, 32, 32, 33}[r.Intn(8)]
			bytes := ""
			for range count {
				bytes += framed(drawRecord(r))
			}
			if r.Intn(4) == 0 {
				bytes = bytes[:len(bytes)-r.Intn(len(bytes)+1)/8] + []string{"", "x", "\x00\x00\x00\x00"}[r.Intn(3)]
			}
			d.Append(path("log", n), bytes)
			n += []int{count, count, count, count, count + 1, 1, 32}[r.Intn(7)]
		}
		if r.Intn(2) == 0 {
			d.Sync()
		}
		other := d.Copy()
		h := has(other, "log")
		cleaned(other, "log")
		w := opened(t, d, "log")
		alike(t, d, other)
		told(t, w, h.first, h.records)
		agree(t, w, d, "log")
		opened(t, d, "log")
		alike(t, d, other)
		do(t, w, d, "log", appends("x"), cuts(h.next()), drops(h.next()), appends("y", "z"))
	}
}
