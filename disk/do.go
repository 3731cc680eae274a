package disk

import "tessera/api"

// thing is what was done, in a form that can be done again over other files; its bytes
// stand apart from what it does with them, as a crash may tear them.
type thing struct {
	bytes string
	do    func(files map[string]file, bytes string)
}

// Append lays bytes behind a file, which comes to be if there is none.
func (d *Disk) Append(name, bytes string) api.Errno {
	if e := d.fault(name); e != api.OK {
		return e
	}
	return d.grow(name, len(bytes), thing{bytes, func(files map[string]file, bytes string) {
		files[name] = file{files[name].bytes + bytes}
	}})
}

// Write makes a file of just these bytes, in the place of what it had.
func (d *Disk) Write(name, bytes string) api.Errno {
	if e := d.fault(name); e != api.OK {
		return e
	}
	return d.grow(name, len(bytes)-len(d.seen[name].bytes), thing{bytes, func(files map[string]file, bytes string) {
		files[name] = file{bytes}
	}})
}

// Trunc leaves the first n bytes of a file.
func (d *Disk) Trunc(name string, n int) api.Errno {
	found, e := d.find(name)
	if e != api.OK {
		return e
	}
	if n < 0 || n > len(found.bytes) {
		return api.ErrArg
	}
	return d.done(n-len(found.bytes), thing{"", func(files map[string]file, _ string) {
		files[name] = file{files[name].bytes[:n]}
	}})
}

// Rename gives a file another name, in the place of the file that has it.
func (d *Disk) Rename(from, to string) api.Errno {
	_, e := d.find(from, to)
	if e != api.OK {
		return e
	}
	lost := 0
	if from != to {
		lost = len(d.seen[to].bytes)
	}
	return d.done(-lost, thing{"", func(files map[string]file, _ string) {
		moved := files[from]
		delete(files, from)
		files[to] = moved
	}})
}

// Remove takes a file away.
func (d *Disk) Remove(name string) api.Errno {
	found, e := d.find(name)
	if e != api.OK {
		return e
	}
	return d.done(-len(found.bytes), thing{"", func(files map[string]file, _ string) {
		delete(files, name)
	}})
}

// grow does what makes a file, or makes it longer by so many bytes, if there is room for that.
func (d *Disk) grow(name string, more int, t thing) api.Errno {
	_, there := d.seen[name]
	if more > d.room-d.used || !there && len(d.seen) == api.MaxFiles {
		return api.ErrFull
	}
	return d.done(more, t)
}

// done does a thing, by which so many more bytes are used; it is loose then.
func (d *Disk) done(more int, t thing) api.Errno {
	t.do(d.seen, t.bytes)
	d.used += more
	d.loose = append(d.loose, t)
	return api.OK
}
