package tables_test

import (
	"fmt"
	"slices"
	"testing"

	"tessera/api"
	"tessera/disk"
)

// crashes gives each disk that a crash may leave, by each keep and each of these torn.
func crashes(d *disk.Disk, torn ...int) func(func(*disk.Disk, int) bool) {
	return func(yield func(*disk.Disk, int) bool) {
		for keep := range d.Loose() + 1 {
			for _, n := range torn {
				c := d.Copy()
				c.Crash(keep, n)
				if !yield(c, keep) || keep == d.Loose() {
					break // nothing is left to be torn
				}
			}
		}
	}
}

// history is the Puts of a store, how many of them were done, and how many of these synced.
type history struct {
	puts       [][]api.Cell
	done, fast int
}

// step takes in what is done to the disk next.
func (h *history) step(o op) {
	switch o.verb {
	case "append":
		h.done++
	case "sync":
		h.fast = h.done
	}
}

// seen is what is seen, from a low time on, behind the first n Puts.
func (h *history) seen(n int, low, high uint64) string {
	w := allOf(h.puts[:n]...)
	out := ""
	for time := low; time <= high; time++ {
		out += fmt.Sprint(time, w.scan("", "", time), "\n")
	}
	return out
}

const horizon = 12 // no time of these tests stands so far above the low one

// found holds a disk behind a crash to the history, and says how many of the Puts it has.
func (h *history) found(t *testing.T, c *disk.Disk, lows ...uint64) int {
	t.Helper()
	other := c.Copy()
	opsOn(other, openOps(other))
	s := opened(t, c)
	alike(t, c, other)
	agree(t, s, c)
	low := has(c).low
	if !slices.Contains(lows, low) {
		t.Fatalf("the low time %d behind a crash is none of %v", low, lows)
	}
	got := ""
	for time := low; time <= low+horizon; time++ {
		got += fmt.Sprint(time, slices.Collect(s.Scan("", "", time)), "\n")
	}
	for n := h.done; n >= h.fast; n-- {
		if h.seen(n, low, low+horizon) == got {
			return n
		}
	}
	t.Fatalf("behind a crash there is %s, which is none of the first %d to %d of %v", got, h.fast, h.done, h.puts)
	return 0
}

// whileOpened crashes a disk between any two things that Open does to it; Open finds the
// same cells behind that.
func whileOpened(t *testing.T, c *disk.Disk) {
	t.Helper()
	done := c.Copy()
	want := seenAt(opened(t, done), 0, 50)
	step := c.Copy()
	for _, o := range openOps(c) {
		for again := range crashes(step, 0) {
			if got := seenAt(opened(t, again), 0, 50); got != want || !disk.Same(again, done) {
				t.Fatalf("behind a crash in the midst of Open: %s, the files %q, not %s, %q", got, again.Names(), want, done.Names())
			}
		}
		o.on(step)
	}
	if !disk.Same(step, done) {
		t.Fatalf("Open leaves %q, not %q", done.Names(), step.Names())
	}
}

// between does an act, crashing the disk ahead of each thing that is done to it and behind the last one.
func (h *history) between(t *testing.T, d *disk.Disk, a act, torn ...int) {
	t.Helper()
	low := has(d).low
	lows := []uint64{low, max(low, a.below)}
	ops := a.ops(d)
	if a.isPut() {
		h.puts = append(h.puts, a.cells)
	}
	step := d.Copy()
	for i := range len(ops) + 1 {
		for c, keep := range crashes(step, torn...) {
			full := keep == step.Loose()
			before := c.Copy()
			if n := h.found(t, c, lows...); full && h.seen(n, lows[1], lows[1]+horizon) != h.seen(h.done, lows[1], lows[1]+horizon) {
				t.Fatalf("all was kept, but %d of %d Puts are there", n, h.done)
			}
			whileOpened(t, before)
		}
		if i < len(ops) {
			ops[i].on(step)
			h.step(ops[i])
		}
	}
}

// P8.6: drawn calls, the disk crashed between any two of the things that they do to it, by
// each keep and by some torn.
func TestCrash(t *testing.T) {
	r := draws()
	for range 12 {
		d := disk.New(1 << 20)
		s := opened(t, d)
		h := &history{}
		for range 14 {
			low := has(d).low
			a := drawAct(r, low)
			if a.verb == "compact" {
				a.below = max(a.below, low)
			}
			a.cells = slices.DeleteFunc(a.cells, func(c api.Cell) bool { return c.Time <= low })
			h.between(t, d, a, 0, 1, 5, 8, 9, 12, 1000)
			do(t, s, d, a)
		}
	}
}

// P8.6: a small store, by each keep and by each torn.
func TestCrashEach(t *testing.T) {
	var torn []int
	for i := range 60 {
		torn = append(torn, i)
	}
	s, d := made(t)
	h := &history{}
	for _, a := range []act{
		puts(val("k", 1, "x")), puts(val("k", 2, "y"), val("l", 1, "")), syncs(), puts(del("k", 3)), puts(val("m", 3, "")), flushes(),
		puts(val("k", 4, "z")), flushes(), puts(val("k", 4, "again")), compacts(3), puts(del("m", 5), del("k", 5), del("l", 5)), compacts(5),
	} {
		h.between(t, d, a, torn...)
		do(t, s, d, a)
	}
	if s.Len() != 0 || h.done != len(h.puts) || h.fast != h.done {
		t.Errorf("Len %d, %v", s.Len(), h)
	}
}

// P8.6: a log of several files, the first of which are dropped.
func TestCrashLog(t *testing.T) {
	s, d := made(t)
	h := &history{}
	add := func(n int, crash bool) {
		t.Helper()
		for range n {
			a := puts(val("k", uint64(len(h.puts)%7+1), fmt.Sprint(len(h.puts))))
			if crash {
				h.between(t, d, a, 0, 9)
			} else {
				h.puts = append(h.puts, a.cells)
				h.step(op{verb: "append"})
			}
			a.on(s)
		}
	}
	add(62, false)
	h.between(t, d, syncs(), 0)
	do(t, s, d, syncs())
	h.fast = h.done
	add(5, true)
	h.between(t, d, flushes(), 0, 3)
	do(t, s, d, flushes())
	add(3, true) // while the log's files are removed, but not fast
	h.between(t, d, compacts(2), 0, 3)
	do(t, s, d, compacts(2))
	if files := has(d).files; !slices.Equal(files, []int{65}) || d.Loose() != 0 {
		t.Errorf("the log's files %v, %d loose", files, d.Loose())
	}
}

// P8.6: a store that was broken in the midst of a call, crashed by each keep.
func TestCrashBroken(t *testing.T) {
	for room := 20; room < 330; room++ {
		d := disk.New(room)
		s := opened(t, d)
		h := &history{}
		lows := []uint64{0}
		for _, a := range []act{puts(val("k", 1, "x"), val("l", 1, "yyyyyyyyyy")), syncs(), puts(val("k", 2, "z")), flushes(), puts(del("l", 3)), flushes(), puts(val("m", 4, "")), compacts(3), puts(val("m", 5, "")), syncs()} {
			if a.isPut() {
				h.puts = append(h.puts, a.cells)
			}
			before := d.Copy()
			lows = append(lows, a.below)
			for _, o := range a.ops(before) {
				if o.on(before) != api.OK {
					break
				}
				h.step(o)
			}
			a.on(s)
			for c := range crashes(d, 0, 2, 9) {
				h.found(t, c, lows...)
			}
			if s.Broken() {
				refused(t, s, d)
				break
			}
		}
	}
}

// P8.6: behind a crash a store goes on, and may crash again.
func TestCrashAgain(t *testing.T) {
	r := draws()
	for range 60 {
		d := disk.New(1 << 20)
		for range 8 {
			s := opened(t, d)
			agree(t, s, d)
			for range r.Intn(6) {
				do(t, s, d, drawAct(r, has(d).low))
			}
			if r.Intn(4) > 0 {
				d.Crash(r.Intn(d.Loose()+1), r.Intn(20))
			}
		}
		agree(t, opened(t, d), d)
	}
}
