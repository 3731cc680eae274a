package tables_test

import (
	"math"
	"slices"
	"strings"
	"testing"

	"tessera/api"
	"tessera/tables"
)

// some is cells in order, with the edges of what a cell may be.
func some() []api.Cell {
	key, value := strings.Repeat("k", api.MaxKey), strings.Repeat("v", api.MaxCell)
	return []api.Cell{
		val("\x00", 1, ""), val("a", math.MaxUint64, "x"), del("a", 300), val("a", 255, "\x00\xff"), val("a", 1, value),
		del("a\x00", 7), val("b", 2, ""), val("k", 1, "y"), val(key, 9, value), del(key, 1), val("\xff", 1, "z"),
	}
}

// P8.5: the bytes of tables, of none, of one, of many.
func TestTable(t *testing.T) {
	for _, one := range []struct {
		l    []api.Cell
		want string
	}{
		{nil, "\x00\x00\x00\x01\xdf\x39\xc6\x5c\x00"},
		{[]api.Cell{}, framed("\x00")},
		{[]api.Cell{val("k", 5, "a")}, framed("\x01\x01" + "\x01\x01k" + "\x01\x05" + "\x00" + "\x01\x01a")},
		{[]api.Cell{val("k", 300, "")}, framed("\x01\x01" + "\x01\x01k" + "\x02\x01\x2c" + "\x00" + "\x00")},
		{[]api.Cell{del("k", 7), val("k", 5, "a"), val("l", 9, "bc")}, framed("\x01\x03" +
			"\x01\x01k\x01\x07\x01\x00" + "\x01\x01k\x01\x05\x00\x01\x01a" + "\x01\x01l\x01\x09\x00\x01\x02bc")},
		{some(), framed(laid(some()...))},
	} {
		got, e := tables.Table(one.l...)
		if got != one.want || e != api.OK {
			t.Errorf("Table(%v): %q, %v, not %q", brief(one.l), brief(got), e, brief(one.want))
		}
		back, e := tables.ReadTable(one.want)
		if !slices.Equal(back, one.l) || e != api.OK {
			t.Errorf("ReadTable of %v: %v, %v", brief(one.l), brief(back), e)
		}
	}
}

// wrongs are cells that may not be.
func wrongs() []api.Cell {
	key, value := strings.Repeat("k", api.MaxKey+1), strings.Repeat("v", api.MaxCell+1)
	return []api.Cell{
		{}, val("", 1, "x"), del("", 1), val("k", 0, "x"), del("k", 0), {Key: "k", Time: 1, Del: true, Val: "x"},
		val(key, 1, "x"), del(key, 1), val("k", 1, value), val(key, 0, "x"), val("", 1, value), val("k", 0, value),
		{Key: "k", Time: 1, Del: true, Val: value}, {Key: key, Time: 1, Del: true, Val: "x"},
	}
}

// P8.5: a cell that may not be comes first, wherever it stands; then that they do not rise; then their length.
func TestTableWrong(t *testing.T) {
	check := func(e api.Errno, l ...api.Cell) {
		t.Helper()
		if got, f := tables.Table(l...); got != "" || f != e {
			t.Errorf("Table(%v): %q, %v, not %v", brief(l), brief(got), f, e)
		}
	}
	for _, c := range wrongs() {
		e := wrong(c, 0)
		check(e, c)
		check(e, val("a", 1, ""), c)
		check(e, val("b", 1, ""), val("a", 1, ""), c)
		check(e, c, val("b", 1, ""), val("a", 1, ""))
		for _, other := range wrongs() {
			check(e, val("z", 1, ""), c, other)
		}
	}
	check(api.ErrArg, val("k", 3, "b"), val("k", 5, "a"))
	check(api.ErrArg, val("k", 3, "b"), val("k", 3, "b"))
	check(api.ErrArg, val("k", 3, "b"), del("k", 3))
	check(api.ErrArg, val("b", 3, ""), val("a", 3, ""))
	check(api.ErrArg, val("b", 3, ""), val("a", 9, ""))
	check(api.ErrArg, val("a", 3, ""), val("b", 3, ""), val("c", 3, ""), val("b", 2, ""))
	check(api.ErrArg, val("a\x00", 3, ""), val("a", 3, ""))
	full := long(api.MaxFrame)
	check(api.ErrArg, append(slices.Clone(full), val("a", 1, ""))...)
	check(api.ErrArg, append(slices.Clone(full), val("z", 1, ""), val("z", 1, ""))...)
	check(api.ErrLong, append(slices.Clone(full), val("z", 1, ""))...)
}

// long is cells that rise whose bytes are just so many.
func long(n int) []api.Cell {
	var out []api.Cell
	size := func() int { // no second time is laid out
		sum := len(num(uint64(len(out))))
		for _, c := range out {
			sum += len(text(c.Key)) + len(num(c.Time)) + 1 + len(num(uint64(len(c.Val)))) + len(c.Val)
		}
		return sum
	}
	value := strings.Repeat("v", api.MaxCell)
	for i := uint64(1 << 20); size()+2*api.MaxCell < n; i-- {
		out = append(out, val("k", i, value))
	}
	half := (n - size()) / 2
	out = append(out, val("l", 1, value[:half]))
	out = append(out, val("m", 1, ""))
	out[len(out)-1].Val = value[:n-size()-2] // the length's number grows by two bytes
	if len(laid(out...)) != n {
		panic("the cells are not of the length that they must have")
	}
	return out
}

// P8.5: tables of MaxFrame bytes are allowed, of one more they are not.
func TestTableLong(t *testing.T) {
	l := long(api.MaxFrame)
	got, e := tables.Table(l...)
	if got != framed(laid(l...)) || e != api.OK {
		t.Errorf("MaxFrame bytes: %d bytes, %v", len(got), e)
	}
	if back, e := tables.ReadTable(got); !slices.Equal(back, l) || e != api.OK {
		t.Errorf("ReadTable of MaxFrame bytes: %d cells, %v", len(back), e)
	}
	for i, longer := range [][]api.Cell{long(api.MaxFrame + 1), long(api.MaxFrame + 9), long(2 * api.MaxFrame), slices.Repeat([]api.Cell{val("k", 1, strings.Repeat("v", api.MaxCell))}, 20000)} {
		for j := range longer { // where they are alike
			longer[j].Time = 1 << 40
			longer[j].Time -= uint64(j)
		}
		if got, e := tables.Table(longer...); got != "" || e != api.ErrLong {
			t.Errorf("%d: %d bytes, %v", i, len(got), e)
		}
	}
}

// isTable says whether bytes are a table: of the cells that can be read of it, whatever
// else it has, the table is just these bytes.
func isTable(s string) ([]api.Cell, bool) {
	l, used := frames(s)
	if len(l) != 1 || used != len(s) {
		return nil, false
	}
	r := reader{l[0]}
	out := r.cells()
	for i, c := range out {
		if wrong(c, 0) != api.OK || i > 0 && !slices.Equal(words(out[i-1:i+1]).all(), out[i-1:i+1]) || i > 0 && out[i-1].Key == c.Key && out[i-1].Time == c.Time {
			return nil, false
		}
	}
	if framed(laid(out...)) != s {
		return nil, false
	}
	return out, true
}

// P8.5: bytes that are a table's are read, all others are ErrTable.
func TestReadTable(t *testing.T) {
	good, bad := 0, 0
	check := func(s string) {
		t.Helper()
		want, is := isTable(s)
		got, e := tables.ReadTable(s)
		if !slices.Equal(got, want) || (e == api.OK) != is || e != api.OK && e != api.ErrTable {
			t.Fatalf("ReadTable(%q): %v, %v, not %v, %v", brief(s), brief(got), e, brief(want), is)
		}
		if is {
			good++
		} else {
			bad++
		}
	}
	for _, l := range [][]api.Cell{nil, {val("k", 5, "a")}, {del("k", 7), val("k", 5, "ab"), val("l", 300, ""), del("m", 1)}, {val("\x00", math.MaxUint64, "\x00\xff"), del("\x00", 1), val("\x00\x01", 256, "")}} {
		s := framed(laid(l...))
		body := laid(l...)
		check(s)
		for i := range min(len(s), 60) {
			check(s[:i])
			check(s[:len(s)-1-i])
			check(s[i+1:])
		}
		for _, behind := range []string{"\x00", "x", s, framed(""), framed("\x00")} {
			check(s + behind)
			check(framed(body + behind))
		}
		for i := range min(len(body), 60) {
			for b := range 256 {
				turned := body[:i] + string([]byte{byte(b)}) + body[i+1:]
				check(framed(turned))
				check(s[:8] + turned)
			}
			check(framed(body[:i]))
			check(framed(body[:i] + body[i+1:]))
			check(framed(body[:i] + "\x00" + body[i:]))
		}
	}
	for _, s := range []string{
		"", "x", "\x00", strings.Repeat("\x00", 8), strings.Repeat("\x00", 99), framed(""), framed("\x01"), framed("\x01\x00"), framed("\x09"), framed("\x01\x01"),
		framed("\x08\xff\xff\xff\xff\xff\xff\xff\xff"), framed("\x08\xff\xff\xff\xff\xff\xff\xff\xff" + laid(val("k", 5, "a"))[2:]),
		"\xff\xff\xff\xff" + strings.Repeat("\x00", 99), laid(val("k", 5, "a")),
	} {
		check(s)
	}
	if good < 1000 || bad < 10000 {
		t.Errorf("%d tables, and %d others", good, bad)
	}
}

// P8.5: a table whose cells may not be, do not rise, or are two alike is none.
func TestReadTableCells(t *testing.T) {
	for _, l := range [][]api.Cell{
		{val("k", 3, "b"), val("k", 5, "a")}, {val("k", 3, "b"), val("k", 3, "b")}, {val("k", 3, "b"), del("k", 3)}, {val("b", 1, ""), val("a", 1, "")},
		{val("a", 1, ""), val("b", 1, ""), val("a", 9, "")}, {val("a\x00", 3, ""), val("a", 3, "")},
	} {
		if got, e := tables.ReadTable(framed(laid(l...))); len(got) != 0 || e != api.ErrTable {
			t.Errorf("ReadTable of %v: %v, %v", l, got, e)
		}
	}
	for _, c := range wrongs() {
		for _, l := range [][]api.Cell{{c}, {val("\x00", 2, ""), c}, {c, val("\xff", 2, "")}} {
			if got, e := tables.ReadTable(framed(laid(l...))); len(got) != 0 || e != api.ErrTable {
				t.Errorf("ReadTable of %v: %v, %v", brief(l), brief(got), e)
			}
		}
	}
	// a cell without that byte, and a value whose bytes begin with none that it may be
	if got, e := tables.ReadTable(framed("\x01\x01" + "\x01\x01k" + "\x01\x05" + text(strings.Repeat("v", 256)))); len(got) != 0 || e != api.ErrTable {
		t.Errorf("ReadTable of a cell without its byte: %v, %v", brief(got), e)
	}
	// a Del is the byte 1, all else that is not 0 is none
	for b := range 256 {
		_, e := tables.ReadTable(framed("\x01\x01" + "\x01\x01k" + "\x01\x05" + string([]byte{byte(b)}) + "\x00"))
		if want := b <= 1; (e == api.OK) != want {
			t.Errorf("the byte %d: %v", b, e)
		}
	}
}

// P8.7: ReadTable of Table is the cells, and what is handed in is not changed.
func TestThereAndBack(t *testing.T) {
	r := draws()
	for range 300 {
		l := words(nil).with(drawCells(r, 12, 0)...).all()
		room := append(slices.Clone(l), val("room", 1, ""))
		s, e := tables.Table(room[:len(l)]...)
		if s != framed(laid(l...)) || e != api.OK || !slices.Equal(room[:len(l)], l) || room[len(l)] != val("room", 1, "") {
			t.Fatalf("Table(%v): %q, %v", l, s, e)
		}
		for range 2 {
			got, e := tables.ReadTable(s)
			if !slices.Equal(got, l) || e != api.OK {
				t.Fatalf("ReadTable of %v: %v, %v", l, got, e)
			}
			for i := range got {
				got[i].Val = "changed"
			}
		}
	}
}
