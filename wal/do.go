package wal

import (
	"slices"

	"tessera/api"
	"tessera/code"
)

// Append adds records behind the last one, and says how many it has added, beside a
// disk's error too.
func (w *Wal) Append(records ...string) (int, api.Errno) {
	switch {
	case w.gone():
		return 0, api.ErrNil
	case slices.ContainsFunc(records, tooLong):
		return 0, api.ErrLong
	}
	for i, bytes := range records {
		if e := w.add(bytes); e != api.OK {
			return i, e
		}
	}
	return len(records), api.OK
}

func tooLong(bytes string) bool { return len(bytes) > api.MaxRecord }

// add adds one record, in a new file if the last one has no room for more.
func (w *Wal) add(bytes string) api.Errno {
	n := w.file(w.Next())
	if n > maxNumber {
		return api.ErrFull
	}
	frame, e := code.Frame(bytes)
	if e != api.OK {
		return e
	}
	if e := w.Disk.Append(w.path(n), frame); e != api.OK {
		return e
	}
	w.records = append(w.records, record{bytes, w.start(w.Next()) + len(frame)})
	w.last = n
	return api.OK
}

// Sync makes all that was done to the disk fast.
func (w *Wal) Sync() api.Errno {
	if w.gone() {
		return api.ErrNil
	}
	return w.Disk.Sync()
}

// Drop takes away the files ahead whose records are all below a number; the last file
// stays, so that the numbers go on.
func (w *Wal) Drop(below int) api.Errno {
	switch {
	case w.gone():
		return api.ErrNil
	case below > w.Next():
		return api.ErrArg
	}
	for w.first < w.last && w.first+api.MaxSegment <= below {
		if e := w.Remove(w.path(w.first)); e != api.OK {
			return e
		}
		w.first += api.MaxSegment
		w.records = slices.Delete(w.records, 0, api.MaxSegment)
	}
	return api.OK
}

// Cut takes away the records from a number on.
func (w *Wal) Cut(from int) api.Errno {
	switch {
	case w.gone():
		return api.ErrNil
	case from < w.first || from > w.Next():
		return api.ErrArg
	}
	for w.last > from {
		if e := w.Remove(w.path(w.last)); e != api.OK {
			return e
		}
		w.forget(w.last)
		w.last -= api.MaxSegment
	}
	if from == w.Next() {
		return api.OK
	}
	if e := w.Trunc(w.path(w.last), w.start(from)); e != api.OK {
		return e
	}
	w.forget(from)
	return api.OK
}

// forget keeps the records below a number alone.
func (w *Wal) forget(from int) {
	w.records = slices.Delete(w.records, from-w.first, len(w.records))
}
