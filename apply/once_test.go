package apply_test

import (
	"fmt"
	"math/rand"
	"slices"
	"strconv"
	"testing"

	"tessera/api"
	"tessera/apply"
)

// drawEntry draws an entry; most are commands of few clients, with numbers near one another.
func drawEntry(r *rand.Rand) api.Entry {
	clients := []uint64{1, 2, 3, 255, 256, greatest}
	data := []string{"", "a", "bc", "\x00", "x y\n", "\xff\xfe"}[r.Intn(6)]
	entry := ask(clients[r.Intn(len(clients))], uint64(1+r.Intn(7)), data)
	entry.Term = uint64(r.Intn(3))
	switch r.Intn(12) {
	case 0:
		entry.Kind = []api.EntryKind{api.Noop, api.Seats, 3, 255}[r.Intn(4)]
	case 1:
		entry.Data = []string{"", "x", commandWords(0, 1, "a"), commandWords(1, 0, "a")}[r.Intn(4)]
	case 2:
		entry.Data = entry.Data[:r.Intn(len(entry.Data))]
	case 3:
		entry.Data += "\x00"
	case 4:
		entry.Data = commandWords(clients[r.Intn(len(clients))], r.Uint64(), data)
	}
	return entry
}

// P15.2 to P15.5: drawn calls of several loops, which are copied, written and read on the way: each answers what the
// words say of its own entries alone.
func TestDrawn(t *testing.T) {
	r := draws()
	drawn(t, r, ints())
	drawn(t, r, texts())
	drawn(t, r, nothing())
	drawn(t, r, structs())
	drawn(t, r, lists())
	drawn(t, r, tallies())
	drawn(t, r, chains())
	drawn(t, r, anys())
	drawn(t, r, funcs())
	drawn(t, r, arrays())
}

func drawn[S any](t *testing.T, r *rand.Rand, k kind[S]) {
	t.Helper()
	for range 60 {
		l, w := begin(k)
		all, by := []*apply.Loop[S]{l}, []*words[S]{w}
		for range 60 {
			at := r.Intn(len(all))
			switch r.Intn(12) {
			case 0:
				all, by = append(all, all[at].Copy()), append(by, by[at].copy())
			case 1:
				all, by = append(all, reread(t, all[at], k)), append(by, by[at].copy())
			case 2:
				both(t, all[at], by[at], uint64(r.Intn(40)), drawEntry(r))
			case 3: // all of them, each behind its own
				entry := drawEntry(r)
				for i := range all {
					next(t, all[i], by[i], entry)
				}
			default:
				next(t, all[at], by[at], drawEntry(r))
			}
			if len(all) > 5 {
				drop := r.Intn(len(all))
				all, by = slices.Delete(all, drop, drop+1), slices.Delete(by, drop, drop+1)
			}
		}
		for i := range all {
			agree(t, all[i], by[i])
		}
	}
}

// reread is the loop that is read of another one's bytes.
func reread[S any](t *testing.T, l *apply.Loop[S], k kind[S]) *apply.Loop[S] {
	t.Helper()
	s, e := l.Bytes(k.write)
	if e != api.OK {
		t.Fatalf("%s: Bytes: %v", k.name, e)
	}
	other, e := apply.Read(s, k.read, k.step)
	if e != api.OK {
		t.Fatalf("%s: Read of %x: %v", k.name, s, e)
	}
	return other
}

// P15.5: two loops that begin alike and are given the same entries answer the same and have the same, though one of
// them is put away again and again for its copy, or for what is read of its bytes.
func TestTwins(t *testing.T) {
	r := draws()
	for range 60 {
		twins(t, r, ints())
		twins(t, r, texts())
		twins(t, r, structs())
		twins(t, r, tallies())
		twins(t, r, chains())
		twins(t, r, anys())
	}
}

func twins[S any](t *testing.T, r *rand.Rand, k kind[S]) {
	t.Helper()
	a, b := apply.New(k.first, k.step), apply.New(k.first, k.step)
	row := []api.Entry{drawEntry(r)}
	for range 100 {
		entry := drawEntry(r)
		if r.Intn(3) == 0 {
			entry = row[r.Intn(len(row))] // it comes again
		}
		row = append(row, entry)
		old := b
		switch r.Intn(6) {
		case 0:
			b = b.Copy()
		case 1:
			b = reread(t, b, k)
		}
		if old != b { // whatever the old one is given now
			old.Apply(old.Index()+1, drawEntry(r))
			old.Apply(old.Index()+1, drawEntry(r))
		}
		index := a.Index() + 1
		if r.Intn(8) == 0 {
			index = r.Uint64() >> r.Intn(64)
		}
		alike(t, k, a, b, index, entry)
	}
}

// alike fails unless two loops answer an entry the same, and are the same behind it.
func alike[S any](t *testing.T, k kind[S], a, b *apply.Loop[S], index uint64, entry api.Entry) {
	t.Helper()
	answer, e := a.Apply(index, entry)
	if other, f := b.Apply(index, entry); other != answer || e != f {
		t.Fatalf("%s: Apply(%d, %+v): %q, %v and %q, %v", k.name, index, entry, answer, e, other, f)
	}
	s, e := a.Bytes(k.write)
	if other, f := b.Bytes(k.write); other != s || e != api.OK || f != api.OK {
		t.Fatalf("%s: behind %+v: %x, %v and %x, %v", k.name, entry, s, e, other, f)
	}
	if k.write(a.State()) != k.write(b.State()) || a.Index() != b.Index() {
		t.Fatalf("%s: behind %+v: %q, %d and %q, %d", k.name, entry, k.write(a.State()), a.Index(), k.write(b.State()), b.Index())
	}
}

// P15.2 to P15.5: all rows of up to five of a few entries, which copies go on with, answer what the words say.
func TestAllSmallRows(t *testing.T) {
	entries := []api.Entry{
		ask(1, 1, "a"), ask(1, 2, "b"), ask(1, 1, "other"), ask(2, 1, "c"), ask(2, greatest, ""),
		{Data: "none"}, {Kind: api.Noop, Data: commandWords(1, 3, "d")},
	}
	rows := 0
	var further func(l *apply.Loop[int], w *words[int])
	further = func(l *apply.Loop[int], w *words[int]) {
		agree(t, l, w)
		if rows++; len(w.row) == 5 {
			return
		}
		for _, entry := range entries {
			c, v := l.Copy(), w.copy()
			next(t, c, v, entry)
			further(c, v)
		}
		agree(t, l, w)
	}
	further(begin(ints()))
	if rows != 1+7+7*7+7*7*7+7*7*7*7+7*7*7*7*7 {
		t.Errorf("%d rows", rows)
	}
}

// P15.5: clients that ask one by one, each again and again till it asks the next one, and some commands that come late:
// each is done once, in the order in which they first came, and whoever asks again is told what it was told, or that
// it was long ago.
func TestOnce(t *testing.T) {
	r := draws()
	for round := range 200 {
		var calls []string
		step := func(n int, data string) (int, string) { return n*3 + len(data), strconv.Itoa(n) }
		plain, noisy := apply.New(0, step), apply.New(0, func(n int, data string) (int, string) {
			calls = append(calls, data)
			return step(n, data)
		})
		first := map[command]string{} // what each command was told
		last := map[uint64]uint64{}
		var asked []command
		var wanted []string
		for range 80 {
			client := uint64(1 + r.Intn(4))
			switch {
			case r.Intn(10) == 0:
				noisy.Apply(noisy.Index()+1, []api.Entry{{Kind: api.Noop}, {Data: "x"}, {Kind: api.Seats, Members: []int{1}}}[r.Intn(3)])
				continue
			case r.Intn(2) == 0 && len(asked) > 0: // one of those that there were comes again
				c := asked[r.Intn(len(asked))]
				again(t, noisy, c, first[c], c.seq == last[c.client])
				continue
			}
			last[client]++
			c := command{client, last[client], fmt.Sprint(round, " ", client, " ", last[client])}
			answer, e := noisy.Apply(noisy.Index()+1, ask(c.client, c.seq, c.data))
			want, f := plain.Apply(plain.Index()+1, ask(c.client, c.seq, c.data))
			if answer != want || e != api.OK || f != api.OK {
				t.Fatalf("%+v: %q, %v, and without what came twice %q, %v", c, answer, e, want, f)
			}
			first[c] = answer
			asked, wanted = append(asked, c), append(wanted, c.data)
		}
		sameButIndex(t, noisy, plain)
		if !slices.Equal(calls, wanted) {
			t.Fatalf("steps %q, not %q", calls, wanted)
		}
	}
}

// again fails unless a command that comes again is told what it was told, if it was its client's last one, and that it
// is old else, and changes nothing but Index.
func again(t *testing.T, l *apply.Loop[int], c command, told string, isLast bool) {
	t.Helper()
	before := l.Copy()
	answer, e := l.Apply(l.Index()+1, ask(c.client, c.seq, c.data))
	switch {
	case isLast && (answer != told || e != api.OK):
		t.Fatalf("%+v again: %q, %v, not %q", c, answer, e, told)
	case !isLast && (answer != "" || e != api.ErrOld):
		t.Fatalf("%+v long ago: %q, %v", c, answer, e)
	}
	sameButIndex(t, l, before)
}

// sameButIndex fails unless two loops have the same state and the same of each client.
func sameButIndex(t *testing.T, a, b *apply.Loop[int]) {
	t.Helper()
	s, _ := a.Bytes(strconv.Itoa)
	other, _ := b.Bytes(strconv.Itoa)
	if s, other = s[len(numWords(a.Index())):], other[len(numWords(b.Index())):]; s != other {
		t.Fatalf("%x and %x", s, other)
	}
	if a.State() != b.State() {
		t.Fatalf("states %d and %d", a.State(), b.State())
	}
}
