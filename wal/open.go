package wal

import (
	"strconv"
	"strings"

	"tessera/api"
	"tessera/code"
	"tessera/disk"
)

const (
	maxName   = 64           // bytes of a wal's name
	digits    = 12           // of a file's number
	maxNumber = 999999999999 // the greatest one of so many digits
	slash     = "/"          // between the name and the number
)

// Open is the wal that a disk has by that name, made clean.
func Open(d *disk.Disk, name string) (*Wal, api.Errno) {
	// a disk that is not there says so of any name, and of no name nothing is read
	if _, e := d.Read(""); e == api.ErrNil {
		return nil, api.ErrNil
	}
	if len(name) < 1 || len(name) > maxName || strings.Contains(name, slash) {
		return nil, api.ErrArg
	}
	w := &Wal{Disk: d, name: name, first: 1}
	if e := w.load(); e != api.OK {
		return nil, e
	}
	return w, api.OK
}

// load takes the records of the wal's own files, and cleans the disk of what else has
// their form.
func (w *Wal) load() api.Errno {
	var others []int
	used, size := 0, 0 // of the last file: the bytes of its frames, and all
	ended := false
	for _, n := range w.numbers() {
		if ended || w.last != 0 && n != w.Next() {
			others = append(others, n)
			continue
		}
		bytes, e := w.Read(w.path(n))
		if e != api.OK {
			return e
		}
		used, size = w.take(n, bytes), len(bytes)
		ended = w.Next()-n < api.MaxSegment || used < size
	}
	return w.clean(used, size, others)
}

// numbers is those of all files that have the form of the wal's, rising.
func (w *Wal) numbers() []int {
	var out []int
	for _, name := range w.Names() {
		n, _ := strconv.Atoi(strings.TrimPrefix(name, w.name+slash))
		// more is taken for a number than the one form; what is not written back alike is another name
		if n > 0 && n <= maxNumber && w.path(n) == name {
			out = append(out, n)
		}
	}
	return out
}

// path is the name of the file with that number.
func (w *Wal) path(n int) string {
	number := strconv.Itoa(n)
	return w.name + slash + strings.Repeat("0", digits-len(number)) + number
}

// take makes a file the last one, and says how many of its bytes are records.
func (w *Wal) take(n int, bytes string) int {
	if w.last == 0 {
		w.first = n
	}
	w.last = n
	left := bytes
	for range api.MaxSegment {
		found, rest, e := code.ReadFrame(left)
		if e != api.OK {
			break
		}
		left = rest
		w.records = append(w.records, record{found, len(bytes) - len(left)})
	}
	return len(bytes) - len(left)
}

// clean leaves the used bytes of the last file, and none of the other files.
func (w *Wal) clean(used, size int, others []int) api.Errno {
	if used == size && len(others) == 0 {
		return api.OK
	}
	if used < size {
		if e := w.Trunc(w.path(w.last), used); e != api.OK {
			return e
		}
	}
	for _, n := range others {
		if e := w.Remove(w.path(n)); e != api.OK {
			return e
		}
	}
	return w.Sync()
}
