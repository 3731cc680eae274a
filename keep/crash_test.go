package keep_test

import (
	"math/rand"
	"slices"
	"testing"

	"tessera/api"
	"tessera/disk"
	"tessera/keep"
	"tessera/wal"
)

// crashes gives each disk that a crash may leave, by each keep and each of these torn, and how many things were kept.
func crashes(d *disk.Disk, torn []int) func(func(*disk.Disk, int) bool) {
	return func(yield func(*disk.Disk, int) bool) {
		for kept := range d.Loose() + 1 {
			for _, n := range torn {
				c := d.Copy()
				c.Crash(kept, n)
				if !yield(c, kept) {
					return
				}
				if kept == d.Loose() {
					break // nothing is left to be torn
				}
			}
		}
	}
}

// each is all that may be torn of the records of small members.
func each() []int {
	var out []int
	for n := range 90 {
		out = append(out, n)
	}
	return out
}

// some is what may be torn of a record's frame: nothing, within its head, its head, one byte more, all.
func some() []int { return []int{0, 1, 7, 8, 9, 14, 1 << 20} }

// row is a member that is saved, state by state.
type row struct {
	d   *disk.Disk
	w   *wal.Wal
	now api.Peer // as of the last Save that answered OK
}

func newRow(t *testing.T, room int) *row {
	t.Helper()
	d := disk.New(room)
	return &row{d, opened(t, d), fresh()}
}

// beginnings is what the member is behind each beginning of some records, none of them first.
func (x *row) beginnings(t *testing.T, l []string) []api.Peer {
	t.Helper()
	var out []api.Peer
	for n := range len(l) + 1 {
		p, _, e := wordsFold(2, 10, []int{1, 2, 3}, append([]string{nOf(x.now)}, l[:n]...)...)
		if e != api.OK {
			t.Fatalf("a beginning of %q: %v", l, e)
		}
		out = append(out, p)
	}
	return out
}

// found holds a disk behind a crash to P12.5, and says which of what may be there is: Load tells it, and so it does
// behind another crash.
func (x *row) found(t *testing.T, c *disk.Disk, may []api.Peer) int {
	t.Helper()
	got, e := keep.Load(opened(t, c), 2, 10, 1, 2, 3)
	if e != api.OK {
		t.Fatalf("Load behind a crash: %v, of %q", e, told(opened(t, c)))
	}
	if got.Term < x.now.Term || got.Term == x.now.Term && x.now.Vote != 0 && got.Vote != x.now.Vote {
		t.Fatalf("forgotten: Term %d, Vote %d of %d, %d", got.Term, got.Vote, x.now.Term, x.now.Vote)
	}
	c.Crash(0, 0)
	if again, e := keep.Load(opened(t, c), 2, 10, 1, 2, 3); e != api.OK || !equal(again, got) {
		t.Fatalf("Load behind another crash: %+v, %v, not %+v", again, e, got)
	}
	for n, p := range slices.Backward(may) {
		if equal(p, got) {
			return n
		}
	}
	t.Fatalf("Load behind a crash: %+v, which is none of %+v", got, may)
	return 0
}

// between does the things of a call to a copy of the disk, which crashes ahead of each of them and behind the last
// one; of the records that it appends some beginning is there, at least what was kept of it, and all behind a sync.
func (x *row) between(t *testing.T, ops []op, l []string, torn []int) {
	t.Helper()
	may := x.beginnings(t, l)
	step := x.d.Copy()
	w := opened(t, step)
	for i := range len(ops) + 1 {
		for c, kept := range crashes(step, torn) {
			n := x.found(t, c, may[:min(i, len(l))+1])
			if all := kept == step.Loose(); all && !equal(may[n], may[min(i, len(l))]) {
				t.Fatalf("all was kept, but what is there is %d of %d", n, i)
			}
			if i > len(l) && !equal(may[n], may[len(l)]) {
				t.Fatalf("behind a sync there are %d of %d", n, len(l))
			}
		}
		if i < len(ops) {
			if e := ops[i](w); e != api.OK {
				return
			}
		}
	}
}

// save does a Save, with crashes between all that it does; behind it nothing but what it saved is there.
func (x *row) save(t *testing.T, now api.Peer, torn []int) api.Errno {
	t.Helper()
	l := wordsDiff(x.now, now)
	x.between(t, saveOps(x.now, now), l, torn)
	e := saved(t, x.d, x.w, x.now, now)
	if e == api.OK {
		x.now = now
		l = nil
	}
	for c := range crashes(x.d, torn) {
		x.found(t, c, x.beginnings(t, l))
	}
	return e
}

// trim does a Trim likewise: whatever a crash leaves of it, the member is as it was.
func (x *row) trim(t *testing.T, torn []int) api.Errno {
	t.Helper()
	x.between(t, trimOps(x.w, x.now), nil, torn)
	e := trimmedTo(t, x.d, x.w, x.now)
	for c := range crashes(x.d, torn) {
		x.found(t, c, x.beginnings(t, nil))
	}
	return e
}

// drawnState is what may become of a member that votes once in a term.
func drawnState(r *rand.Rand, p api.Peer) api.Peer {
	now := drawnNext(r, p)
	if now.Term == p.Term && p.Vote != 0 {
		now.Vote = p.Vote
	}
	return now
}

// P12.5: a short row of Saves and Trims, crashed by each keep and torn at each place.
func TestCrashEach(t *testing.T) {
	x := newRow(t, 1<<20)
	log := []api.Entry{{Term: 1, Kind: api.Noop}, {Term: 1, Data: "x"}, {Term: 1, Kind: api.Seats, Members: []int{1, 2}}}
	one := with(fresh(), func(p *api.Peer) { p.Term, p.Vote = 1, 2 })
	two := with(one, func(p *api.Peer) { p.Log, p.Members = log, []int{1, 2} })
	three := with(two, func(p *api.Peer) {
		p.Term, p.Vote, p.Log, p.Members = 2, 0, append(p.Log[:1], api.Entry{Term: 2}), []int{1, 2, 3}
	})
	four := with(three, func(p *api.Peer) { p.Vote, p.Base, p.BaseTerm, p.Snap, p.Log, p.Commit = 3, 1, 1, "snap", p.Log[1:], 1 })
	five := with(four, func(p *api.Peer) {
		p.Term, p.Base, p.BaseTerm, p.Snap, p.Log, p.Commit = 3, 9, 3, "more", []api.Entry{{Term: 3}}, 9
	})
	for _, now := range []api.Peer{one, one, two, three, four, four, five} {
		if e := x.save(t, now, each()); e != api.OK {
			t.Fatalf("Save of %+v: %v", now, e)
		}
		if now.Base > 0 {
			x.trim(t, each())
		}
	}
}

// P12.5: drawn rows of Saves and Trims, over several files, crashed between any two things that they do.
func TestCrashDrawn(t *testing.T) {
	r := draws()
	dropped := 0
	for range 25 {
		x := newRow(t, 1<<20)
		for range 30 {
			if r.Intn(5) == 0 {
				x.trim(t, some())
			} else if e := x.save(t, drawnState(r, x.now), some()); e != api.OK {
				t.Fatalf("Save: %v", e)
			}
		}
		if x.w.First() > 1 {
			dropped++
		}
	}
	if dropped < 10 {
		t.Errorf("%d rows with files that went", dropped)
	}
}

// P12.5: rows that end for want of room, crashed by each keep; the member goes on from what is there, on the same disk.
func TestCrashRoom(t *testing.T) {
	r := draws()
	failed, partly := 0, 0
	for room := 10; room < 700; room += 3 {
		x := newRow(t, room)
		for range 25 {
			var e api.Errno
			before := x.w.Next()
			if r.Intn(6) == 0 {
				e = x.trim(t, some())
			} else {
				e = x.save(t, drawnState(r, x.now), some())
			}
			if e == api.OK {
				continue
			}
			if failed++; e != api.ErrFull {
				t.Fatalf("an error %v of a disk without room", e)
			}
			if x.w.Next() > before {
				partly++
			}
			x.d.Crash(r.Intn(x.d.Loose()+1), r.Intn(30))
			x.w = opened(t, x.d)
			got, e := keep.Load(x.w, 2, 10, 1, 2, 3)
			if e != api.OK {
				t.Fatalf("Load: %v", e)
			}
			x.now = got
		}
	}
	if failed < 500 || partly < 100 {
		t.Errorf("what is drawn tells little: %d calls ended for want of room, %d of them with some records", failed, partly)
	}
}

// P12.5: behind a crash the member goes on from what Load told, and may crash again, in the midst of a Save or a Trim.
func TestCrashAgain(t *testing.T) {
	r := draws()
	for range 60 {
		x := newRow(t, 1<<20)
		for range 25 {
			ops, now := trimOps(x.w, x.now), x.now
			var l []string
			if r.Intn(4) > 0 {
				now = drawnState(r, x.now)
				l = wordsDiff(x.now, now)
				ops = saveOps(x.now, now)
			}
			may := x.beginnings(t, l)
			opsOn(t, x.d, ops[:r.Intn(len(ops)+1)])
			x.d.Crash(r.Intn(x.d.Loose()+1), r.Intn(30))
			n := x.found(t, x.d, may)
			x.now, x.w = may[n], opened(t, x.d)
			if r.Intn(2) == 0 {
				continue
			}
			now = drawnState(r, x.now)
			if e := saved(t, x.d, x.w, x.now, now); e != api.OK {
				t.Fatalf("Save: %v", e)
			}
			x.now = now
			loads(t, "behind a Save", x.w, now)
		}
	}
}
