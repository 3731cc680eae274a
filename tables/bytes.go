package tables

import (
	"strings"

	"tessera/api"
	"tessera/cells"
	"tessera/code"
)

const (
	keptByte = "\x00" // of a cell that has a value
	goneByte = "\x01" // of one that is Del
)

// Table is the bytes of a table of these cells.
func Table(l ...api.Cell) (string, api.Errno) {
	for _, cell := range l {
		if e := may(cell); e != api.OK {
			return "", e
		}
	}
	if !rise(l) {
		return "", api.ErrArg
	}
	return code.Frame(cellBytes(l))
}

// ReadTable is the cells of a table.
func ReadTable(s string) ([]api.Cell, api.Errno) {
	body, rest, e := code.ReadFrame(s)
	if e != api.OK || rest != "" {
		return nil, api.ErrTable
	}
	l, e := readCells(body)
	if e != api.OK || !rise(l) {
		return nil, api.ErrTable
	}
	return l, api.OK
}

// may is layer 7's word on a cell, which it says of one that is put.
func may(cell api.Cell) api.Errno {
	_, e := cells.New().Put(cell)
	return e
}

// rise says whether cells stand in order, no two alike.
func rise(l []api.Cell) bool {
	for i := range l {
		if i > 0 && cells.Cmp(l[i-1], l[i]) >= 0 {
			return false
		}
	}
	return true
}

// cellBytes is cells as bytes, with their number ahead. What no frame has room for, and
// so no record, is not put together to its end: it is refused for its length as it is.
func cellBytes(l []api.Cell) string {
	var out strings.Builder
	out.WriteString(code.Num(uint64(len(l))))
	for _, cell := range l {
		if out.Len() > api.MaxFrame {
			break
		}
		out.WriteString(code.Text(cell.Key))
		out.WriteString(code.Num(cell.Time))
		if cell.Del {
			out.WriteString(goneByte)
		} else {
			out.WriteString(keptByte)
		}
		out.WriteString(code.Text(cell.Val))
	}
	return out.String()
}

// readCells reads cells that may be, with their number ahead, of which s is all.
func readCells(s string) ([]api.Cell, api.Errno) {
	n, rest, e := code.ReadNum(s)
	var l []api.Cell
	for e == api.OK && n > 0 {
		var cell api.Cell
		cell, rest, e = readCell(rest)
		l = append(l, cell)
		n--
	}
	if e != api.OK || rest != "" {
		return nil, api.ErrTable
	}
	return l, api.OK
}

// readCell reads a cell that may be at the front of s, and says what stands behind it.
func readCell(s string) (cell api.Cell, rest string, e api.Errno) {
	if cell.Key, rest, e = code.ReadText(s); e != api.OK {
		return api.Cell{}, "", e
	}
	if cell.Time, rest, e = code.ReadNum(rest); e != api.OK {
		return api.Cell{}, "", e
	}
	switch {
	case strings.HasPrefix(rest, keptByte):
	case strings.HasPrefix(rest, goneByte):
		cell.Del = true
	default:
		return api.Cell{}, "", api.ErrTable
	}
	if cell.Val, rest, e = code.ReadText(rest[1:]); e != api.OK {
		return api.Cell{}, "", e
	}
	return cell, rest, may(cell)
}
