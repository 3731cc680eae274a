package tables

import (
	"slices"
	"strconv"
	"strings"

	"tessera/api"
	"tessera/code"
	"tessera/disk"
)

const (
	manifestFile = "manifest"
	laidFile     = "manifest.new" // where a manifest stands until it is whole
	tablePrefix  = "table/"
	digits       = 8        // of a table's number
	maxTable     = 99999999 // the greatest one of so many digits
)

// manifest says which tables count, and what else a store must know of its files.
type manifest struct {
	tables []uint64 // the newest first
	next   uint64   // the next table's number
	record uint64   // the number of the first record that is in no table
	low    uint64   // the time at or below which nothing is put
}

// findManifest is the manifest of a disk; one without the file has no tables yet.
func findManifest(d *disk.Disk) (manifest, api.Errno) {
	bytes, e := d.Read(manifestFile)
	switch e {
	case api.OK:
		return readManifest(bytes)
	case api.ErrNone:
		return manifest{next: 1, record: 1}, api.OK
	}
	return manifest{}, e
}

// readManifest is the manifest whose file has these bytes.
func readManifest(s string) (manifest, api.Errno) {
	left, behind, fault := code.ReadFrame(s)
	number := func() (x uint64) {
		if fault == api.OK {
			x, left, fault = code.ReadNum(left)
		}
		return x
	}
	var m manifest
	for n := number(); n > 0 && fault == api.OK; n-- {
		m.tables = append(m.tables, number())
	}
	m.next, m.record, m.low = number(), number(), number()
	if fault != api.OK || left != "" || behind != "" || !m.numbered() {
		return manifest{}, api.ErrManifest
	}
	return m, api.OK
}

// numbered says whether the tables' numbers, and 0 and the next one's, which stand around
// them, are all unlike.
func (m manifest) numbered() bool {
	row := append([]uint64{0, m.next}, m.tables...)
	slices.Sort(row)
	return row[len(row)-1] == m.next && len(slices.Compact(row)) == len(row)
}

// bytes is what the manifest's file has.
func (m manifest) bytes() (string, api.Errno) {
	row := slices.Concat([]uint64{uint64(len(m.tables))}, m.tables, []uint64{m.next, m.record, m.low})
	var out strings.Builder
	for _, x := range row {
		out.WriteString(code.Num(x))
	}
	return code.Frame(out.String())
}

// with is the manifest with one table more, the newest.
func (m manifest) with(n uint64) manifest {
	m.tables = append([]uint64{n}, m.tables...)
	m.next = n + 1
	return m
}

// path is the name of the file of the table with that number.
func path(n uint64) string {
	number := strconv.FormatUint(n, 10)
	return tablePrefix + strings.Repeat("0", max(digits-len(number), 0)) + number
}

// isTable says whether a table's file may have that number.
func isTable(n uint64) bool { return 1 <= n && n <= maxTable }

// stray says whether a file is one that the manifest would name if it counted, but does not.
func (m manifest) stray(name string) bool {
	if name == laidFile {
		return true
	}
	// more is taken for a number than the one form; what is not written back alike is another name
	n, _ := strconv.ParseUint(strings.TrimPrefix(name, tablePrefix), 10, 64)
	return isTable(n) && path(n) == name && !slices.Contains(m.tables, n)
}
