package wal_test

import (
	"math"
	"slices"
	"strings"
	"testing"

	"tessera/api"
	"tessera/disk"
	"tessera/wal"
)

// P6.1 to P6.4: the chapter's examples.
func TestExamples(t *testing.T) {
	d := disk.New(1 << 16)
	w := opened(t, d, "log")
	if n, e := w.Append("a", "b"); n != 2 || e != api.OK || w.First() != 1 || w.Next() != 3 {
		t.Errorf("Append(a, b): %d, %v; %d to %d", n, e, w.First(), w.Next())
	}
	if s, e := w.At(2); s != "b" || e != api.OK {
		t.Errorf("At(2): %q, %v", s, e)
	}
	if s, e := w.At(3); s != "" || e != api.ErrNone {
		t.Errorf("At(3): %q, %v", s, e)
	}
	w, d = made(t, 33)
	if got := d.Names(); !slices.Equal(got, []string{"log/000000000001", "log/000000000033"}) {
		t.Errorf("the files of 33 records: %q", got)
	}
	if e := w.Drop(33); e != api.OK || w.First() != 33 {
		t.Errorf("Drop(33): %v, First %d", e, w.First())
	}
	if e := w.Drop(99); e != api.ErrArg {
		t.Errorf("Drop(99): %v", e)
	}
	w = opened(t, disk.New(1<<16), "log")
	w.Append("a", "b", "c")
	if e := w.Cut(2); e != api.OK || w.Next() != 2 {
		t.Errorf("Cut(2): %v, Next %d", e, w.Next())
	}
	if n, e := w.Append("x"); n != 1 || e != api.OK {
		t.Errorf("Append(x): %d, %v", n, e)
	}
	if s, e := w.At(2); s != "x" || e != api.OK {
		t.Errorf("At(2): %q, %v", s, e)
	}
	d = disk.New(1 << 16)
	w = opened(t, d, "log")
	w.Append("a")
	w.Sync()
	w.Append("b")
	d.Crash(0, 5)
	w = opened(t, d, "log")
	if s, e := d.Read("log/000000000001"); w.Next() != 2 || s != framed("a") || e != api.OK {
		t.Errorf("Open behind Crash(0, 5): Next %d, the file %q, %v", w.Next(), s, e)
	}
	for _, name := range []string{"a/b", ""} {
		if w, e := wal.Open(d, name); w != nil || e != api.ErrArg {
			t.Errorf("Open(%q): %v, %v", name, w, e)
		}
	}
}

// P0.1, P6.2 to P6.4: a wal that is not there, or that Open did not make, is ErrNil in
// each call, whatever else is wrong, and tells nothing.
func TestNoWal(t *testing.T) {
	long := strings.Repeat("x", api.MaxRecord+1)
	for _, w := range []*wal.Wal{nil, {}, new(wal.Wal), {Disk: disk.New(100)}} {
		for _, records := range [][]string{nil, {"a"}, {long}} {
			if n, e := w.Append(records...); n != 0 || e != api.ErrNil {
				t.Errorf("Append: %d, %v", n, e)
			}
		}
		if e := w.Sync(); e != api.ErrNil {
			t.Errorf("Sync: %v", e)
		}
		if w.First() != 0 || w.Next() != 0 {
			t.Errorf("%d to %d", w.First(), w.Next())
		}
		for _, i := range []int{math.MinInt, -1, 0, 1, math.MaxInt} {
			if s, e := w.At(i); s != "" || e != api.ErrNil {
				t.Errorf("At(%d): %q, %v", i, s, e)
			}
			if e := w.Drop(i); e != api.ErrNil {
				t.Errorf("Drop(%d): %v", i, e)
			}
			if e := w.Cut(i); e != api.ErrNil {
				t.Errorf("Cut(%d): %v", i, e)
			}
		}
		for i, s := range w.All() {
			t.Errorf("All: %d, %q", i, s)
		}
	}
}

// P6.3: there is no record below First or from Next on.
func TestAt(t *testing.T) {
	for _, n := range []int{0, 1, 31, 32, 33, 64, 65, 70} {
		w, d := made(t, n)
		told(t, w, 1, rising(1, n))
		for _, i := range []int{math.MinInt, math.MinInt + 1, -1, 0, n + 1, n + 2, math.MaxInt - 1, math.MaxInt} {
			if s, e := w.At(i); s != "" || e != api.ErrNone {
				t.Errorf("At(%d) of %d: %q, %v", i, n, s, e)
			}
		}
		agree(t, w, d, "log")
	}
	w, _ := made(t, 70)
	w.Drop(65)
	for _, i := range []int{math.MinInt, 0, 1, 32, 33, 64, 71, math.MaxInt} {
		if s, e := w.At(i); s != "" || e != api.ErrNone {
			t.Errorf("At(%d) behind Drop(65): %q, %v", i, s, e)
		}
	}
	told(t, w, 65, rising(65, 70))
}

// P6.3: All may be left early, and gone over again; nothing is told behind the leaving.
func TestAllLeft(t *testing.T) {
	w, _ := made(t, 40)
	all := w.All()
	for _, stop := range []int{1, 2, 32, 33, 40} {
		n := 0
		for i, s := range all {
			n++
			if i != n || s != rising(i, i)[0] {
				t.Errorf("All: %q at %d as the %d.", s, i, n)
			}
			if n == stop {
				break
			}
		}
		if n != stop {
			t.Errorf("All left at %d: %d records", stop, n)
		}
	}
}

// P6.3: All tells what there is when going over it begins, not what there was when it
// was asked for, nor what comes in the midst.
func TestAllBegins(t *testing.T) {
	for _, c := range []struct {
		why  string
		acts []act
	}{
		{"Append", []act{appends(rising(41, 70)...)}},
		{"Drop", []act{drops(33)}},
		{"Cut", []act{cuts(1)}},
		{"Cut and Append", []act{cuts(3), appends("x", "y", "z", "w")}},
		{"Drop and Append", []act{drops(41), appends("x", "y", "z", "w")}},
		{"Drop and Cut", []act{drops(33), cuts(33)}},
	} {
		w, d := made(t, 0)
		all := w.All()
		w.Append(rising(1, 40)...)
		n := 0
		for i, s := range all {
			n++
			if i != n || s != rising(i, i)[0] {
				t.Fatalf("%s: %q at %d, as the %d.", c.why, s, i, n)
			}
			if n == 2 {
				do(t, w, d, "log", c.acts...)
			}
		}
		if n != 40 {
			t.Errorf("%s: %d records", c.why, n)
		}
		h := has(d, "log")
		var again []string
		for i, s := range all {
			if i != h.first+len(again) {
				t.Errorf("%s: %d told again", c.why, i)
			}
			again = append(again, s)
		}
		if !slices.Equal(again, h.records) {
			t.Errorf("%s: %q told again, not %q", c.why, again, h.records)
		}
	}
}

// P6.3: All within All goes over the same.
func TestAllWithin(t *testing.T) {
	w, _ := made(t, 35)
	all := w.All()
	n := 0
	for i := range all {
		for j := range all {
			if j == i {
				break
			}
			n++
		}
	}
	if n != 35*34/2 {
		t.Errorf("%d pairs", n)
	}
}

// P6.6: At answers what was appended, until it is dropped or cut, whatever calls come:
// held against a list with numbers that knows nothing of files but where they begin.
func TestNumbersDrawn(t *testing.T) {
	r := draws()
	for range 60 {
		d := disk.New(1 << 20)
		w := opened(t, d, "log")
		first, list := 1, []string{}
		for range 40 {
			a := drawAct(r, w)
			next, files := first+len(list), d.Names()
			_, e := a.on(w)
			switch {
			case a.verb == "append":
				list = append(list, a.records...)
			case a.verb == "drop" && a.n <= next:
				for first+32 <= a.n && slices.Contains(files, path("log", first+32)) {
					first, list = first+32, list[32:]
				}
			case a.verb == "cut" && first <= a.n && a.n <= next:
				list = list[:a.n-first]
			case a.verb != "sync":
				if e != api.ErrArg {
					t.Fatalf("%s %d of %d to %d: %v", a.verb, a.n, first, next, e)
				}
				continue
			}
			if e != api.OK {
				t.Fatalf("%s %d of %d to %d: %v", a.verb, a.n, first, next, e)
			}
			list = slices.Clip(list)
			told(t, w, first, list)
		}
	}
}

// P6.1 to P6.4: drawn calls do to the disk what the words say, call by call.
func TestDrawn(t *testing.T) {
	r := draws()
	for range 40 {
		d := disk.New(200 + r.Intn(4000))
		w := opened(t, d, "log")
		for range 30 {
			do(t, w, d, "log", drawAct(r, w))
			if r.Intn(10) == 0 {
				w = opened(t, d, "log")
			}
		}
	}
}
