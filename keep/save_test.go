package keep_test

import (
	"math"
	"slices"
	"strings"
	"testing"

	"tessera/api"
	"tessera/disk"
	"tessera/keep"
	"tessera/wal"
)

const name = "member" // of each wal of these tests

// opened is the wal that a disk has.
func opened(t *testing.T, d *disk.Disk) *wal.Wal {
	t.Helper()
	w, e := wal.Open(d, name)
	if e != api.OK {
		t.Fatalf("Open: %v", e)
	}
	return w
}

// roomy is a new disk with much room, and its wal with some records that are fast.
func roomy(t *testing.T, records ...string) (*disk.Disk, *wal.Wal) {
	t.Helper()
	d := disk.New(1 << 25)
	w := opened(t, d)
	if _, e := w.Append(records...); e != api.OK || w.Sync() != api.OK {
		t.Fatalf("Append: %v", e)
	}
	return d, w
}

// told is all records that a wal has.
func told(w *wal.Wal) []string {
	var out []string
	for _, s := range w.All() {
		out = append(out, s)
	}
	return out
}

// op is one thing that a call does to a wal.
type op func(w *wal.Wal) api.Errno

func appends(s string) op {
	return func(w *wal.Wal) api.Errno {
		_, e := w.Append(s)
		return e
	}
}

func syncs(w *wal.Wal) api.Errno { return w.Sync() }

func drops(n int) op { return func(w *wal.Wal) api.Errno { return w.Drop(n) } }

// saveOps is what Save does, one behind the other, by the words.
func saveOps(old, now api.Peer) []op {
	var out []op
	for _, s := range wordsDiff(old, now) {
		out = append(out, appends(s))
	}
	if len(out) > 0 {
		out = append(out, syncs)
	}
	return out
}

// trimOps is what Trim does.
func trimOps(w *wal.Wal, p api.Peer) []op { return []op{appends(nOf(p)), syncs, drops(w.Next())} }

// opsOn does things to the wal that a disk has, up to the first error.
func opsOn(t *testing.T, d *disk.Disk, l []op) api.Errno {
	t.Helper()
	w := opened(t, d)
	for _, o := range l {
		if e := o(w); e != api.OK {
			return e
		}
	}
	return api.OK
}

// alike fails unless two disks are the same, and by each crash, too.
func alike(t *testing.T, call string, d, other *disk.Disk) {
	t.Helper()
	if !disk.Same(d, other) {
		t.Fatalf("%s: files %q, %d loose; by the words %q, %d loose", call, d.Names(), d.Loose(), other.Names(), other.Loose())
	}
	for kept := range d.Loose() {
		a, b := d.Copy(), other.Copy()
		a.Crash(kept, 3)
		b.Crash(kept, 3)
		if !disk.Same(a, b) {
			t.Fatalf("%s: what was done is not the same behind %d things", call, kept)
		}
	}
}

// saved does a Save, holds what it does to the disk to the words, and says what it answers.
func saved(t *testing.T, d *disk.Disk, w *wal.Wal, old, now api.Peer) api.Errno {
	t.Helper()
	other := d.Copy()
	want := opsOn(t, other, saveOps(old, now))
	if e := keep.Save(w, old, now); e != want {
		t.Fatalf("Save: %v, not %v", e, want)
	}
	alike(t, "Save", d, other)
	agree(t, d, w)
	return want
}

// trimmedTo does a Trim likewise.
func trimmedTo(t *testing.T, d *disk.Disk, w *wal.Wal, p api.Peer) api.Errno {
	t.Helper()
	other := d.Copy()
	want := opsOn(t, other, trimOps(w, p))
	if e := keep.Trim(w, p); e != want {
		t.Fatalf("Trim: %v, not %v", e, want)
	}
	alike(t, "Trim", d, other)
	agree(t, d, w)
	return want
}

// agree fails unless a wal says what its disk has.
func agree(t *testing.T, d *disk.Disk, w *wal.Wal) {
	t.Helper()
	other := opened(t, d.Copy())
	if w.First() != other.First() || !slices.Equal(told(w), told(other)) {
		t.Fatalf("the wal has %q from %d on, its disk %q from %d on", told(w), w.First(), told(other), other.First())
	}
}

// untouched does a call that must answer an error and do nothing.
func untouched(t *testing.T, call string, d *disk.Disk, w *wal.Wal, want api.Errno, do func() api.Errno) {
	t.Helper()
	before := d.Copy()
	first, records := w.First(), told(w)
	if e := do(); e != want {
		t.Errorf("%s: %v, not %v", call, e, want)
	}
	alike(t, call, d, before)
	if w.First() != first || !slices.Equal(told(w), records) {
		t.Errorf("%s: %q from %d on, which was %q from %d on", call, told(w), w.First(), records, first)
	}
}

// loads holds Load to a member, whose Wait is 10.
func loads(t *testing.T, why string, w *wal.Wal, want api.Peer) {
	t.Helper()
	want = wordsKept(want)
	want.Wait = 10
	if got, e := keep.Load(w, 2, 10, 1, 2, 3); e != api.OK || !equal(got, want) {
		t.Errorf("%s: Load: %+v, %v\n wanted %+v", why, got, e, want)
	}
}

// noWals is wals that are not there.
func noWals() map[string]*wal.Wal {
	return map[string]*wal.Wal{"nil": nil, "a zero one": {}, "one of a disk alone": {Disk: disk.New(1 << 20)}}
}

// P12.3: a wal that is not there is ErrNil, whatever else is wrong.
func TestNoWal(t *testing.T) {
	long := with(follower(), func(p *api.Peer) { p.Log[3].Data = strings.Repeat("x", api.MaxRecord) })
	for why, w := range noWals() {
		for _, p := range append(spoiled(), follower(), fresh(), long) {
			if e := keep.Save(w, fresh(), p); e != api.ErrNil {
				t.Errorf("Save to %s: %v", why, e)
			}
			if e := keep.Save(w, p, p); e != api.ErrNil {
				t.Errorf("Save of nothing to %s: %v", why, e)
			}
			if e := keep.Trim(w, p); e != api.ErrNil {
				t.Errorf("Trim of %s: %v", why, e)
			}
		}
		for _, id := range []int{0, 2} {
			if p, e := keep.Load(w, id, 10, 1, 2, 3); e != api.ErrNil || !equal(p, api.Peer{}) {
				t.Errorf("Load of %s: %+v, %v", why, p, e)
			}
		}
	}
}

// P12.3: what Diff refuses Save refuses, ahead of what is too long; and so does Trim of a member that may not be.
func TestSaveArguments(t *testing.T) {
	d, w := roomy(t, hOf(1, 1), hOf(2, 1))
	d.Append("else", "loose") // would be fast by a sync
	long := with(follower(), func(p *api.Peer) { p.Log[3].Data = strings.Repeat("x", api.MaxRecord) })
	for _, p := range spoiled() {
		for _, q := range []api.Peer{follower(), fresh(), long, p} {
			untouched(t, "Save of an old one that may not be", d, w, api.ErrArg, func() api.Errno { return keep.Save(w, p, q) })
			untouched(t, "Save of a new one that may not be", d, w, api.ErrArg, func() api.Errno { return keep.Save(w, q, p) })
		}
		untouched(t, "Trim of one that may not be", d, w, api.ErrArg, func() api.Errno { return keep.Trim(w, p) })
	}
	for why, now := range map[string]api.Peer{
		"another Id":   with(long, func(p *api.Peer) { p.Id = 3 }),
		"a lower Base": with(fresh(), func(p *api.Peer) { p.Term = 9 }),
		"a lower Term": with(follower(), func(p *api.Peer) { p.Base, p.Term, p.Log, p.Members, p.Commit = 9, 5, nil, []int{1, 2, 3}, 9 }),
	} {
		untouched(t, "Save of "+why, d, w, api.ErrArg, func() api.Errno { return keep.Save(w, follower(), now) })
	}
}

// P12.3: each record is appended, in order, and all is synced; what Load tells is Kept of it.
func TestSave(t *testing.T) {
	d, w := roomy(t)
	old := fresh()
	for _, to := range []func(p *api.Peer){
		func(p *api.Peer) { p.Term, p.Vote = 1, 2 },
		func(p *api.Peer) { p.Log = append(p.Log, api.Entry{Term: 1, Kind: api.Noop}) },
		func(p *api.Peer) {
			p.Log = append(p.Log, api.Entry{Term: 1, Data: "x"}, api.Entry{Term: 1, Kind: api.Seats, Members: []int{2, 4}})
			p.Members = []int{2, 4}
		},
		func(p *api.Peer) { p.Term, p.Vote, p.Log[1].Data = 3, 0, "y" },
		func(p *api.Peer) { p.Base, p.BaseTerm, p.Snap, p.Log, p.Commit = 2, 1, "snap", p.Log[2:], 2 },
		func(p *api.Peer) { *p = with(follower(), func(p *api.Peer) {}) },
		func(p *api.Peer) { *p = leader() },
		func(p *api.Peer) { *p = with(candidate(), func(p *api.Peer) { p.Term = 9 }) },
	} {
		now := with(old, to)
		d.Append("else", "x")
		if e := saved(t, d, w, old, now); e != api.OK || d.Loose() != 0 {
			t.Errorf("Save of %+v: %v, %d loose", now, e, d.Loose())
		}
		loads(t, "behind Save", w, now)
		d.Crash(0, 0)
		loads(t, "behind a crash", opened(t, d), now)
		old = now
	}
}

// P12.3: of no difference nothing is done, and nothing is synced.
func TestSaveNothing(t *testing.T) {
	d, w := roomy(t, nOf(follower()))
	d.Append("else", "loose")
	for other, p := range roles() {
		untouched(t, "Save of "+other+" as it is", d, w, api.OK, func() api.Errno { return keep.Save(w, p, p) })
	}
	now := with(follower(), func(p *api.Peer) { p.Lead, p.Commit, p.Idle, p.Wait, p.Round = 0, 8, 5, 9, 8 })
	untouched(t, "Save of what is not kept", d, w, api.OK, func() api.Errno { return keep.Save(w, follower(), now) })
	if d.Loose() != 1 {
		t.Errorf("%d loose", d.Loose())
	}
}

// full is data by which a record, made of it by a function, has just so many bytes.
func full(t *testing.T, length int, record func(data string) string) string {
	t.Helper()
	data := strings.Repeat("x", length)
	data = data[:2*length-len(record(data))]
	if n := len(record(data)); n != length {
		t.Fatalf("a record of %d bytes, not %d", n, length)
	}
	return data
}

// P12.3: a record of MaxRecord bytes is saved; with one more nothing is done, whatever stands ahead of it or behind it.
func TestSaveLong(t *testing.T) {
	x := api.Entry{Term: 6, Data: "x"}
	data := full(t, api.MaxRecord, func(data string) string { return eOf(9, api.Entry{Term: 6, Data: data}) })
	snap := full(t, api.MaxRecord, func(data string) string { return bOf(4, 2, data, 1, 2, 3) })
	for why, to := range map[string]func(p *api.Peer, more string){
		"an E": func(p *api.Peer, more string) { p.Log = append(p.Log, api.Entry{Term: 6, Data: data + more}) },
		"a B":  func(p *api.Peer, more string) { p.Snap = snap + more },
		"an E behind others": func(p *api.Peer, more string) {
			p.Snap, p.Term, p.Log = "t", 7, append(p.Log[:3], x, api.Entry{Term: 6, Data: data + more})
		},
		"an E ahead of another one": func(p *api.Peer, more string) { p.Log = append(p.Log, api.Entry{Term: 6, Data: data + more}, x) },
		"a B ahead of an E":         func(p *api.Peer, more string) { p.Vote, p.Snap, p.Log = 1, snap+more, append(p.Log, x) },
	} {
		d, w := roomy(t, nOf(follower()))
		d.Append("else", "loose")
		more := with(follower(), func(p *api.Peer) { to(p, "x") })
		untouched(t, "Save of "+why+" that is too long", d, w, api.ErrLong, func() api.Errno { return keep.Save(w, follower(), more) })
		now := with(follower(), func(p *api.Peer) { to(p, "") })
		if e := saved(t, d, w, follower(), now); e != api.OK || d.Loose() != 0 {
			t.Errorf("Save of %s of MaxRecord bytes: %v", why, e)
		}
		loads(t, why, w, now)
	}
}

// P12.3: where the disk has no more room, Save ends by ErrFull, and what fitted is there, but not synced.
func TestSaveRoom(t *testing.T) {
	now := with(follower(), func(p *api.Peer) {
		p.Term, p.Log, p.Snap = 7, append(p.Log[:3], api.Entry{Term: 6, Data: "another"}, api.Entry{Term: 6}), "s"
	})
	l := wordsDiff(follower(), now)
	counts := map[int]int{}
	size := 0
	for _, s := range append(l, nOf(follower())) {
		size += 8 + len(s)
	}
	for room := range size + 2 {
		d := disk.New(room)
		w := opened(t, d)
		if w.Append(nOf(follower())); w.Next() == 1 {
			continue
		}
		w.Sync()
		e := saved(t, d, w, follower(), now)
		n := w.Next() - 2
		counts[n]++
		if room >= size {
			if e != api.OK || n != len(l) || d.Loose() != 0 {
				t.Errorf("Save with room for all: %v, %d records, %d loose", e, n, d.Loose())
			}
			continue
		}
		if e != api.ErrFull || d.Loose() != n || n == len(l) || !slices.Equal(told(w)[1:], l[:n]) {
			t.Errorf("Save with room for %d of %d: %v, %d records, %d loose", room, size, e, n, d.Loose())
		}
		got, e := keep.Load(w, 2, 12, 1, 2, 3)
		if want, _, f := wordsFold(2, 12, []int{1, 2, 3}, append([]string{nOf(follower())}, l[:n]...)...); e != f || !equal(got, want) {
			t.Errorf("Load behind that: %+v, %v", got, e)
		}
	}
	if len(counts) != len(l)+1 {
		t.Errorf("records that fitted: %v", counts)
	}
}

// P12.3: Load begins at the last record that begins with an N, and tells Fold's error.
func TestLoad(t *testing.T) {
	other := with(follower(), func(p *api.Peer) { p.Term, p.Vote, p.Snap = 8, 5, "" })
	x := api.Entry{Term: 6, Data: "x"}
	short := nOf(other)[:9]
	for _, one := range []struct {
		why     string
		records []string
		e       api.Errno
		want    api.Peer
	}{
		{"no record", nil, api.OK, fresh()},
		{"no N", []string{hOf(6, 5), eOf(1, x)}, api.OK, with(fresh(), func(p *api.Peer) { p.Term, p.Vote, p.Log = 6, 5, []api.Entry{x} })},
		{"an N", []string{nOf(follower())}, api.OK, follower()},
		{"an N behind others", []string{hOf(9, 9), eOf(1, x), nOf(follower())}, api.OK, follower()},
		{"an N ahead of others", []string{nOf(follower()), hOf(8, 0), cOf(8)}, api.OK, with(follower(), func(p *api.Peer) { p.Term, p.Vote, p.Log = 8, 0, p.Log[:3] })},
		{"an N behind what may not be", []string{"", "x", eOf(7, x), nOf(follower())}, api.OK, follower()},
		{"an N behind an N that is not whole", []string{short, "N", nOf(follower())}, api.OK, follower()},
		{"several", []string{nOf(other), hOf(9, 1), nOf(follower()), hOf(6, 2)}, api.OK, with(follower(), func(p *api.Peer) { p.Vote = 2 })},
		{"several that fall", []string{nOf(other), nOf(fresh())}, api.OK, fresh()},
		{"a record behind an N that may not be there", []string{nOf(other), eOf(7, x)}, api.ErrKeep, api.Peer{}},
		{"a fault without an N", []string{hOf(1, 1), "x"}, api.ErrKeep, api.Peer{}},
		{"an E too far without an N", []string{hOf(6, 1), eOf(2, x)}, api.ErrKeep, api.Peer{}},
		{"a record of no bytes", []string{""}, api.ErrKeep, api.Peer{}},
		{"a record of no bytes behind an N", []string{nOf(other), ""}, api.ErrKeep, api.Peer{}},
		{"an N that is not whole", []string{short}, api.ErrKeep, api.Peer{}},
		{"an N that is not whole behind one that is", []string{nOf(other), short}, api.ErrKeep, api.Peer{}},
		{"an N of no more bytes", []string{nOf(other), "N"}, api.ErrKeep, api.Peer{}},
		{"an N with something behind it", []string{nOf(other), nOf(other) + "\x00"}, api.ErrKeep, api.Peer{}},
		{"an N that may not be", []string{nOf(other), nOf(with(other, func(p *api.Peer) { p.Term = 1 }))}, api.ErrKeep, api.Peer{}},
	} {
		d, w := roomy(t, one.records...)
		before := d.Copy()
		if one.e == api.OK {
			loads(t, one.why, w, one.want)
		} else if got, e := keep.Load(w, 2, 10, 1, 2, 3); e != one.e || !equal(got, api.Peer{}) {
			t.Errorf("%s: %+v, %v", one.why, got, e)
		}
		for _, id := range []int{0, -1, 65} {
			if got, e := keep.Load(w, id, 10, 1, 2, 3); e != api.ErrArg || !equal(got, api.Peer{}) {
				t.Errorf("%s, the Id %d: %+v, %v", one.why, id, got, e)
			}
		}
		for _, wait := range []int{0, math.MinInt, math.MaxInt} {
			if got, e := keep.Load(w, 2, wait, 1, 2, 3); e != api.ErrArg || !equal(got, api.Peer{}) {
				t.Errorf("%s, the Wait %d: %+v, %v", one.why, wait, got, e)
			}
		}
		if got, e := keep.Load(w, 2, 10); e != api.ErrArg || !equal(got, api.Peer{}) {
			t.Errorf("%s, no members: %+v, %v", one.why, got, e)
		}
		alike(t, "Load", d, before)
	}
}

// P12.3: the Id, the Wait and, without an N or a B, the members are those handed in.
func TestLoadHandedIn(t *testing.T) {
	_, w := roomy(t, hOf(1, 3))
	got, e := keep.Load(w, 64, 1<<30, 7, 8)
	if want := (api.Peer{Id: 64, Wait: 1 << 30, Members: []int{7, 8}, BaseMembers: []int{7, 8}, Term: 1, Vote: 3}); e != api.OK || !equal(got, want) {
		t.Errorf("without an N: %+v, %v", got, e)
	}
	w.Append(nOf(follower()))
	got, e = keep.Load(w, 64, 1<<30, 7, 8)
	want := wordsKept(follower())
	if want.Id, want.Wait = 64, 1<<30; e != api.OK || !equal(got, want) {
		t.Errorf("with an N: %+v, %v", got, e)
	}
}

// P12.3: behind Trim the wal has an N, and of what was ahead of it whole files are gone.
func TestTrim(t *testing.T) {
	for _, n := range []int{0, 1, 30, 31, 32, 33, 63, 64, 65, 100} {
		var l []string
		for i := range n {
			l = append(l, hOf(uint64(i+1), 0))
		}
		for why, p := range roles() {
			d, w := roomy(t, l...)
			d.Append("else", "x")
			if e := trimmedTo(t, d, w, p); e != api.OK {
				t.Errorf("Trim of %s behind %d records: %v", why, n, e)
			}
			first := 1 + n/32*32
			if s, e := w.At(n + 1); w.First() != first || w.Next() != n+2 || s != nOf(p) || e != api.OK {
				t.Errorf("Trim of %s behind %d records: %d to %d, %q", why, n, w.First(), w.Next(), s)
			}
			if d.Loose() != n/32 {
				t.Errorf("Trim of %s behind %d records: %d loose", why, n, d.Loose())
			}
			loads(t, why, w, p)
			if e := trimmedTo(t, d, w, p); e != api.OK || w.Next() != n+3 {
				t.Errorf("Trim again: %v, Next %d", e, w.Next())
			}
			loads(t, why+" again", w, p)
			now := with(p, func(p *api.Peer) { p.Term = 20 })
			if e := saved(t, d, w, p, now); e != api.OK {
				t.Errorf("Save behind Trim: %v", e)
			}
			loads(t, why+", saved behind Trim", w, now)
		}
	}
}

// P12.3: an N of MaxRecord bytes is laid; of one more nothing is done.
func TestTrimLong(t *testing.T) {
	data := full(t, api.MaxRecord, func(data string) string {
		return nOf(with(follower(), func(p *api.Peer) { p.Log[3].Data = data }))
	})
	snap := full(t, api.MaxRecord, func(data string) string {
		return nOf(with(follower(), func(p *api.Peer) { p.Snap = data }))
	})
	for why, to := range map[string]func(p *api.Peer, more string){
		"an entry":   func(p *api.Peer, more string) { p.Log[3].Data = data + more },
		"a snapshot": func(p *api.Peer, more string) { p.Snap = snap + more },
	} {
		d, w := roomy(t, hOf(1, 1))
		d.Append("else", "loose")
		more := with(follower(), func(p *api.Peer) { to(p, "x") })
		untouched(t, "Trim, too long by "+why, d, w, api.ErrLong, func() api.Errno { return keep.Trim(w, more) })
		p := with(follower(), func(p *api.Peer) { to(p, "") })
		if e := trimmedTo(t, d, w, p); e != api.OK {
			t.Errorf("Trim of MaxRecord bytes by %s: %v", why, e)
		}
		loads(t, why, w, p)
	}
}

// P12.3: where the disk has no more room for the N nothing is done, though the files that it drops would leave some.
func TestTrimRoom(t *testing.T) {
	n := nOf(follower())
	for _, records := range []int{0, 5, 32, 70} {
		for spare := range 8 + len(n) + 2 {
			d := disk.New(records*13 + spare)
			w := opened(t, d)
			for range records {
				w.Append(hOf(1, 1))
			}
			w.Sync()
			if spare < 8+len(n) {
				untouched(t, "Trim without room", d, w, api.ErrFull, func() api.Errno { return keep.Trim(w, follower()) })
			} else if e := trimmedTo(t, d, w, follower()); e != api.OK {
				t.Errorf("Trim with room: %v", e)
			}
		}
	}
}

// P12.3: an error of Drop is Trim's, behind an N that is fast.
func TestTrimDrop(t *testing.T) {
	var l []string
	for range 70 {
		l = append(l, hOf(1, 1))
	}
	d, w := roomy(t, l...)
	d.Remove(name + "/000000000033")
	if e := keep.Trim(w, follower()); e != api.ErrNone || w.First() != 33 || w.Next() != 72 {
		t.Errorf("Trim: %v, %d to %d", e, w.First(), w.Next())
	}
	if d.Loose() != 1 {
		t.Errorf("%d loose, not the first file's end alone", d.Loose())
	}
	loads(t, "behind that", w, follower())
}

// P12.3: the chapter's example.
func TestSaveExample(t *testing.T) {
	d, w := roomy(t)
	one := with(fresh(), func(p *api.Peer) { p.Term, p.Vote = 1, 2 })
	two := with(one, func(p *api.Peer) { p.Log = []api.Entry{{Term: 1, Kind: api.Noop}} })
	if e := keep.Save(w, fresh(), one); e != api.OK {
		t.Errorf("Save: %v", e)
	}
	if e := keep.Save(w, one, two); e != api.OK {
		t.Errorf("Save: %v", e)
	}
	d.Crash(0, 0)
	loads(t, "behind a crash", opened(t, d), keep.Kept(two))
}
