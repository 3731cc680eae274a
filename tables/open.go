package tables

import (
	"iter"
	"slices"

	"tessera/api"
	"tessera/cells"
	"tessera/disk"
	"tessera/wal"
)

const logName = "log" // of the wal

// Open is the store that a disk has, made clean.
func Open(d *disk.Disk) (*Store, api.Errno) {
	// the log is made clean as it is opened; what is wrong is found over a copy, so that
	// a disk of which no store comes stays as it was
	s, e := load(d.Copy())
	if e != api.OK {
		return nil, e
	}
	s.disk = d
	if s.log, e = wal.Open(d, logName); e != api.OK {
		return nil, e
	}
	if e := s.sweep(); e != api.OK {
		return nil, e
	}
	return s, api.OK
}

// load is the store that a disk has; nothing but its log is made clean.
func load(d *disk.Disk) (*Store, api.Errno) {
	log, e := wal.Open(d, logName)
	if e != api.OK {
		return nil, e
	}
	m, e := findManifest(d)
	if e != api.OK {
		return nil, e
	}
	files, e := m.files(d)
	if e != api.OK {
		return nil, e
	}
	if m.record < uint64(log.First()) || m.record > uint64(log.Next()) {
		return nil, api.ErrManifest
	}
	fresh, e := freshCells(log, m.record)
	if e != api.OK {
		return nil, e
	}
	all, e := merged(fresh, files)
	if e != api.OK {
		return nil, e
	}
	return &Store{memory: memory{fresh, all}, disk: d, log: log, manifest: m}, api.OK
}

// files is the bytes of the tables, the newest first.
func (m manifest) files(d *disk.Disk) ([]string, api.Errno) {
	var out []string
	for _, n := range m.tables {
		bytes, e := d.Read(path(n))
		if e != api.OK || !isTable(n) {
			return nil, api.ErrManifest
		}
		out = append(out, bytes)
	}
	return out, api.OK
}

// freshCells is those of the log's records from a number on.
func freshCells(log *wal.Wal, from uint64) (*cells.Cells, api.Errno) {
	fresh := cells.New()
	for i, record := range log.All() {
		if uint64(i) < from {
			continue
		}
		l, e := readCells(record)
		if e != api.OK {
			return nil, e
		}
		fresh.Put(l...)
	}
	return fresh, api.OK
}

// merged is the fresh cells and the tables', of one key and time the one that was put last.
func merged(fresh *cells.Cells, files []string) (*cells.Cells, api.Errno) {
	parts := []iter.Seq[api.Cell]{fresh.All()}
	for _, bytes := range files {
		l, e := ReadTable(bytes)
		if e != api.OK {
			return nil, e
		}
		parts = append(parts, slices.Values(l))
	}
	all := cells.New()
	for cell := range cells.Merge(parts...) {
		all.Put(cell)
	}
	return all, api.OK
}

// sweep removes what a crash has left of tables and manifests that never counted, or do
// no more.
func (s *Store) sweep() api.Errno {
	var steps []step
	for _, name := range s.disk.Names() {
		if s.manifest.stray(name) {
			steps = append(steps, s.remove(name))
		}
	}
	if len(steps) > 0 {
		steps = append(steps, s.disk.Sync)
	}
	return run(steps)
}
