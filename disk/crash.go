package disk

import (
	"maps"
	"slices"

	"tessera/api"
)

// Sync makes all that was done fast: no crash loses it any more.
func (d *Disk) Sync() api.Errno {
	if e := d.fault(); e != api.OK {
		return e
	}
	if len(d.loose) > 0 {
		lay(d.synced, d.seen)
		d.loose = nil
	}
	return api.OK
}

// Crash leaves of what is loose the first keep things, and the first torn bytes of the next one.
func (d *Disk) Crash(keep, torn int) api.Errno {
	if e := d.fault(); e != api.OK {
		return e
	}
	if keep < 0 || keep > len(d.loose) || torn < 0 {
		return api.ErrArg
	}
	lay(d.seen, d.synced)
	for _, t := range d.loose[:keep] {
		t.do(d.seen, t.bytes)
	}
	if keep < len(d.loose) {
		d.loose[keep].tear(d.seen, torn)
	}
	d.used = total(d.seen)
	return d.Sync()
}

// tear does a thing with the first n of its bytes; one without any was not begun.
func (t thing) tear(files map[string]file, n int) {
	n = min(n, len(t.bytes))
	if n > 0 {
		t.do(files, t.bytes[:n])
	}
}

// lay makes to have the same files as from.
func lay(to, from map[string]file) {
	clear(to)
	maps.Copy(to, from)
}

// total is how many bytes all files have.
func total(files map[string]file) int {
	n := 0
	for _, f := range files {
		n += len(f.bytes)
	}
	return n
}

// Copy is another disk with the same, what is loose too.
func (d *Disk) Copy() *Disk {
	if d.fault() != api.OK {
		return nil
	}
	return &Disk{room: d.room, used: d.used, seen: maps.Clone(d.seen), synced: maps.Clone(d.synced), loose: slices.Clone(d.loose)}
}

// Same says whether two disks have the same files, now and behind the loss of all that
// is loose, and as many loose things.
func Same(a, b *Disk) bool {
	return a.fault() == api.OK && b.fault() == api.OK &&
		len(a.loose) == len(b.loose) && maps.Equal(a.seen, b.seen) && maps.Equal(a.synced, b.synced)
}
