package disk_test

import (
	"math/rand"
	"slices"
	"strings"
	"testing"

	"tessera/api"
	"tessera/disk"
)

// draws is the same row of numbers in every run, so that a failure comes back.
func draws() *rand.Rand { return rand.New(rand.NewSource(5)) }

// act is one call that does something to files, as plain data.
type act struct {
	verb     string // append, write, trunc, rename, remove
	name, to string
	bytes    string
	n        int
}

func appends(name, bytes string) act { return act{verb: "append", name: name, bytes: bytes} }
func writes(name, bytes string) act  { return act{verb: "write", name: name, bytes: bytes} }
func truncs(name string, n int) act  { return act{verb: "trunc", name: name, n: n} }
func renames(from, to string) act    { return act{verb: "rename", name: from, to: to} }
func removes(name string) act        { return act{verb: "remove", name: name} }
func (a act) on(d *disk.Disk) (e api.Errno) {
	switch a.verb {
	case "append":
		return d.Append(a.name, a.bytes)
	case "write":
		return d.Write(a.name, a.bytes)
	case "trunc":
		return d.Trunc(a.name, a.n)
	case "rename":
		return d.Rename(a.name, a.to)
	}
	return d.Remove(a.name)
}

// entry is a file of the words' disk.
type entry struct{ name, bytes string }

// place is where a list of files, rising by names, has one.
func place(files []entry, name string) (int, bool) {
	return slices.BinarySearchFunc(files, name, func(f entry, name string) int { return strings.Compare(f.name, name) })
}

func with(files []entry, name, bytes string) []entry {
	out := without(files, name)
	i, _ := place(out, name)
	return slices.Insert(out, i, entry{name, bytes})
}

func without(files []entry, name string) []entry {
	out := slices.Clone(files)
	if i, there := place(out, name); there {
		out = slices.Delete(out, i, i+1)
	}
	return out
}

func sum(files []entry) int {
	n := 0
	for _, f := range files {
		n += len(f.bytes)
	}
	return n
}

func badName(name string) bool { return len(name) < 1 || len(name) > api.MaxName }

// after is the files behind an act over a disk of such a room, as the chapter has it.
func after(room int, files []entry, a act) ([]entry, api.Errno) {
	if badName(a.name) || a.verb == "rename" && badName(a.to) {
		return files, api.ErrArg
	}
	i, there := place(files, a.name)
	had := ""
	if there {
		had = files[i].bytes
	} else if a.verb == "trunc" || a.verb == "rename" || a.verb == "remove" {
		return files, api.ErrNone
	}
	out := files
	switch a.verb {
	case "append":
		out = with(files, a.name, had+a.bytes)
	case "write":
		out = with(files, a.name, a.bytes)
	case "trunc":
		if a.n < 0 || a.n > len(had) {
			return files, api.ErrArg
		}
		out = with(files, a.name, had[:a.n])
	case "rename":
		out = with(without(files, a.name), a.to, had)
	case "remove":
		out = without(files, a.name)
	}
	if sum(out) > room || len(out) > api.MaxFiles {
		return files, api.ErrFull
	}
	return out, api.OK
}

// words is a disk as the chapter has it: the files of the last Sync, and what was done since.
type words struct {
	room int
	base []entry
	acts []act
}

// files is the base with the acts done to it, one by one.
func (w *words) files(acts []act) []entry {
	out := w.base
	for _, a := range acts {
		out, _ = after(w.room, out, a)
	}
	return out
}

func (w *words) seen() []entry { return w.files(w.acts) }

func (w *words) do(a act) api.Errno {
	_, e := after(w.room, w.seen(), a)
	if e == api.OK {
		w.acts = append(slices.Clip(w.acts), a)
	}
	return e
}

func (w *words) sync() { w.base, w.acts = w.seen(), nil }

func (w *words) crash(keep, torn int) api.Errno {
	if keep < 0 || keep > len(w.acts) || torn < 0 {
		return api.ErrArg
	}
	left := slices.Clone(w.acts[:keep])
	if keep < len(w.acts) && torn > 0 {
		next := w.acts[keep]
		if (next.verb == "append" || next.verb == "write") && next.bytes != "" {
			if len(next.bytes) > torn {
				next.bytes = next.bytes[:torn]
			}
			left = append(left, next)
		}
	}
	w.base, w.acts = w.files(left), nil
	return api.OK
}

func (w *words) copy() *words {
	return &words{w.room, slices.Clone(w.base), slices.Clone(w.acts)}
}

// told is all that a disk tells of its files, in the form of the words' list.
func told(t *testing.T, d *disk.Disk) []entry {
	t.Helper()
	var out []entry
	for _, name := range d.Names() {
		bytes, e := d.Read(name)
		if e != api.OK {
			t.Fatalf("Read(%q) of a name that is told: %v", name, e)
		}
		out = append(out, entry{name, bytes})
	}
	return out
}

// agree fails unless a disk tells what the words' disk has.
func agree(t *testing.T, d *disk.Disk, w *words) {
	t.Helper()
	seen := w.seen()
	if got := told(t, d); !slices.Equal(got, seen) {
		t.Fatalf("files %q, not %q, behind %v", got, seen, w)
	}
	if d.Used() != sum(seen) || d.Loose() != len(w.acts) {
		t.Fatalf("used %d, loose %d, not %d, %d, behind %v", d.Used(), d.Loose(), sum(seen), len(w.acts), w)
	}
}

// made is a disk, and the words' one, with some things done, all of which must be allowed.
func made(t *testing.T, room int, acts ...act) (*disk.Disk, *words) {
	t.Helper()
	d, w := disk.New(room), &words{room: room}
	do(t, d, w, acts...)
	return d, w
}

func do(t *testing.T, d *disk.Disk, w *words, acts ...act) {
	t.Helper()
	for _, a := range acts {
		if e, f := a.on(d), w.do(a); e != api.OK || f != api.OK {
			t.Fatalf("%v: %v, and by the words %v", a, e, f)
		}
	}
}

func drawName(r *rand.Rand) string {
	names := []string{"a", "a", "b", "b", "c", "\x00", "a/1", "\xff", strings.Repeat("n", api.MaxName), strings.Repeat("n", api.MaxName+1), ""}
	return names[r.Intn(len(names))]
}

func drawAct(r *rand.Rand) act {
	verbs := []string{"append", "append", "write", "write", "trunc", "trunc", "rename", "remove"}
	a := act{verb: verbs[r.Intn(len(verbs))], name: drawName(r), to: drawName(r), n: r.Intn(7) - 1}
	for range r.Intn(6) {
		a.bytes += string(rune('a' + r.Intn(26)))
	}
	return a
}

// drawDisk does drawn things, some of which are not allowed, to a disk and to the words' one.
func drawDisk(t *testing.T, r *rand.Rand, steps int) (*disk.Disk, *words) {
	t.Helper()
	room := r.Intn(40) - 2
	d, w := disk.New(room), &words{room: max(room, 0)}
	for range steps {
		step(t, r, d, w)
	}
	return d, w
}

// step does one drawn thing, or a sync or a crash.
func step(t *testing.T, r *rand.Rand, d *disk.Disk, w *words) {
	t.Helper()
	switch r.Intn(16) {
	case 0:
		w.sync()
		if e := d.Sync(); e != api.OK {
			t.Fatalf("Sync: %v", e)
		}
	case 1:
		keep, torn := r.Intn(len(w.acts)+3)-1, r.Intn(8)-1
		if e, f := d.Crash(keep, torn), w.crash(keep, torn); e != f {
			t.Fatalf("Crash(%d, %d): %v, not %v", keep, torn, e, f)
		}
	default:
		a := drawAct(r)
		if e, f := a.on(d), w.do(a); e != f {
			t.Fatalf("%v: %v, not %v, behind %v", a, e, f, w)
		}
	}
}
