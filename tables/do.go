package tables

import (
	"slices"

	"tessera/api"
	"tessera/cells"
)

// Flush makes a table of what is in memory.
func (s *Store) Flush() api.Errno {
	if e := s.fault(); e != api.OK || s.fresh.Len() == 0 {
		return e
	}
	next := s.log.Next()
	m := s.manifest
	m.record = uint64(next)
	dropped := func() api.Errno { return s.log.Drop(next) }
	return s.turn(m, s.fresh, memory{fresh: cells.New(), all: s.all}, dropped)
}

// Compact makes one table of all that there is, without what is not seen at or above a
// time, which is the low one from here on.
func (s *Store) Compact(below uint64) api.Errno {
	if e := s.Flush(); e != api.OK {
		return e
	}
	old := s.manifest
	if len(old.tables) == 0 && below <= old.low {
		return api.OK
	}
	m := old
	m.tables, m.low = nil, max(below, old.low)
	left := s.all.Copy() // behind Flush this is the tables' cells, merged
	left.Trim(m.low)
	return s.turn(m, left, memory{fresh: cells.New(), all: left}, append(s.removals(old.tables), s.disk.Sync)...)
}

// turn writes a table of cells, if there are any, lays a manifest that names it first,
// turns to what is in memory then, and goes on with the steps behind that. The store is
// broken if one of all these fails.
func (s *Store) turn(m manifest, c *cells.Cells, then memory, behind ...step) api.Errno {
	var steps []step
	if c.Len() > 0 {
		table, e := s.table(m.next, c)
		if e != api.OK {
			return e
		}
		steps = append(steps, table, s.disk.Sync)
		m = m.with(m.next)
	}
	laid, e := s.lay(m)
	if e != api.OK {
		return e
	}
	turned := func() api.Errno {
		s.manifest, s.memory = m, then
		return api.OK
	}
	e = run(slices.Concat(steps, laid, []step{turned}, behind))
	s.broken = e != api.OK
	return e
}

// step is one of several things that are done one behind the other.
type step func() api.Errno

// run does steps up to the first one that fails.
func run(steps []step) api.Errno {
	for _, do := range steps {
		if e := do(); e != api.OK {
			return e
		}
	}
	return api.OK
}

// table is the step that writes a table of cells, which has a number and a length that
// may be.
func (s *Store) table(n uint64, c *cells.Cells) (step, api.Errno) {
	bytes, e := Table(slices.Collect(c.All())...)
	switch {
	case e != api.OK:
		return nil, e
	case !isTable(n):
		return nil, api.ErrFull
	}
	return func() api.Errno { return s.disk.Write(path(n), bytes) }, api.OK
}

// lay is the steps by which there is a manifest, the old one or the new one, whenever the
// disk crashes.
func (s *Store) lay(m manifest) ([]step, api.Errno) {
	bytes, e := m.bytes()
	if e != api.OK {
		return nil, e
	}
	return []step{
		func() api.Errno { return s.disk.Write(laidFile, bytes) },
		s.disk.Sync,
		func() api.Errno { return s.disk.Rename(laidFile, manifestFile) },
		s.disk.Sync,
	}, api.OK
}

// removals is the steps that remove tables, by their numbers rising.
func (s *Store) removals(tables []uint64) []step {
	var steps []step
	for _, n := range slices.Sorted(slices.Values(tables)) {
		steps = append(steps, s.remove(path(n)))
	}
	return steps
}

// remove is the step that removes a file.
func (s *Store) remove(name string) step {
	return func() api.Errno { return s.disk.Remove(name) }
}
