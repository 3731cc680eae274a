package wal_test

import (
	"slices"
	"testing"

	"tessera/disk"
	"tessera/wal"
)

// crashes gives each disk that a crash may leave, by each keep and torn that are unlike.
func crashes(d *disk.Disk) func(func(*disk.Disk, int) bool) {
	return func(yield func(*disk.Disk, int) bool) {
		for keep := range d.Loose() + 1 {
			for _, torn := range []int{0, 1, 4, 8, 9, 1000} {
				c := d.Copy()
				c.Crash(keep, torn)
				if !yield(c, keep) {
					return
				}
			}
		}
	}
}

// reopened is the wal behind a crash; Open has made its disk clean, so that another Open
// does nothing, and what was found is fast.
func reopened(t *testing.T, d *disk.Disk) *wal.Wal {
	t.Helper()
	other := d.Copy()
	cleaned(other, "log")
	w := opened(t, d, "log")
	alike(t, d, other)
	agree(t, w, d, "log")
	if d.Loose() != 0 {
		t.Fatalf("%d loose behind Open", d.Loose())
	}
	again := opened(t, d, "log")
	alike(t, d, other)
	agree(t, again, d, "log")
	d.Crash(0, 9)
	alike(t, d, other)
	return again
}

// P6.5: by each crash Open has all records that were synced, in order, and a beginning of the others.
func TestCrash(t *testing.T) {
	r := draws()
	for range 12 {
		d := disk.New(1 << 20)
		w := opened(t, d, "log")
		var list []string
		synced := 0
		for range 1 + r.Intn(6) {
			for range r.Intn(14) {
				s := drawRecord(r)
				list = append(list, s)
				w.Append(s)
			}
			if r.Intn(2) == 0 {
				w.Sync()
				synced = len(list)
			}
		}
		lengths := map[int]bool{}
		for c, keep := range crashes(d) {
			v := reopened(t, c)
			got := slices.Collect(seconds(v))
			if len(got) < synced || len(got) < synced+keep || len(got) > len(list) || !slices.Equal(got, list[:len(got)]) {
				t.Fatalf("%d records behind a crash, of %d with %d synced and %d kept", len(got), len(list), synced, keep)
			}
			lengths[len(got)] = true
			v.Append("x", "y")
			told(t, v, 1, append(got, "x", "y"))
		}
		if len(lengths) != len(list)-synced+1 {
			t.Errorf("crashes leave %v of %d records with %d synced", lengths, len(list), synced)
		}
	}
}

// state is what a wal tells: the first number, and the records.
type state struct {
	first   int
	records []string
}

func stateOf(w *wal.Wal) state {
	return state{w.First(), slices.Collect(seconds(w))}
}

// between says whether a state may be left by a crash in the midst of an act that leads
// from one to another.
func between(s, before, after state, verb string) bool {
	next := s.first + len(s.records)
	switch verb {
	case "append":
		n := len(s.records)
		return s.first == after.first && n >= len(before.records) && n <= len(after.records) && slices.Equal(s.records, after.records[:n])
	case "drop":
		return s.first >= before.first && s.first <= after.first && next == before.first+len(before.records) && slices.Equal(s.records, before.records[s.first-before.first:])
	}
	n := len(s.records)
	return s.first == before.first && n <= len(before.records) && n >= len(after.records) && slices.Equal(s.records, before.records[:n])
}

// P6.5, P6.6: behind Append, Sync, Drop and Cut, each crash leaves what there was in the
// midst of one of the calls since the last Sync, or between two; never an older one, nor another mix.
func TestCrashDrawn(t *testing.T) {
	r := draws()
	for range 40 {
		d := disk.New(1 << 20)
		w := opened(t, d, "log")
		states := []state{stateOf(w)}
		var acts []act
		for range 14 {
			a := drawAct(r, w)
			if a.verb == "sync" && len(acts) > 5 {
				continue // much is to be loose at the end
			}
			a.on(w)
			acts, states = append(acts, a), append(states, stateOf(w))
			if a.verb == "sync" {
				acts, states = nil, states[len(states)-1:]
			}
		}
		if d.Loose() > 150 {
			continue // too many crashes to go over
		}
		for c := range crashes(d) {
			got := stateOf(reopened(t, c))
			found := len(acts) == 0 && between(got, states[0], states[0], "append")
			for i, a := range acts {
				found = found || between(got, states[i], states[i+1], a.verb)
			}
			if !found {
				t.Fatalf("%v behind a crash, of %v, by %v", got, states, acts)
			}
		}
	}
}

// P6.5: a Cut over several files, and a Drop of several, in the midst of which the disk crashes.
func TestCrashMidst(t *testing.T) {
	w, d := made(t, 100)
	w.Sync()
	w.Cut(10)
	for c, keep := range crashes(d) {
		told(t, reopened(t, c), 1, rising(1, []int{100, 96, 64, 32, 9}[keep]))
	}
	w, d = made(t, 100)
	w.Sync()
	w.Drop(101)
	for c, keep := range crashes(d) {
		first := 1 + 32*keep
		told(t, reopened(t, c), first, rising(first, 100))
	}
	w, d = made(t, 40)
	w.Sync()
	w.Cut(20)
	w.Append("x")
	for c, keep := range crashes(d) {
		h := has(c, "log")
		v := reopened(t, c)
		told(t, v, h.first, h.records)
		if want := []int{41, 33, 20, 21}[keep]; v.Next() != want && !(keep == 2 && v.Next() == 21) {
			t.Errorf("Next is %d, not %d, with %d kept", v.Next(), want, keep)
		}
	}
}
