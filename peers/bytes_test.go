package peers_test

import (
	"fmt"
	"math"
	"reflect"
	"slices"
	"testing"

	"tessera/api"
	"tessera/code"
	"tessera/peers"
)

// P10.6, P12.1: entries and members' numbers as bytes, by hand, and read again.
func TestEntryBytes(t *testing.T) {
	for want, entry := range map[string]api.Entry{
		"0106" + "00" + "0102" + "0078" + "00":              {Term: 6, Data: "\x00x"},
		"02012c" + "01" + "00" + "00":                       {Term: 300, Kind: api.Noop},
		"0101" + "02" + "00" + "0103" + "010101020140":      {Term: 1, Kind: api.Seats, Members: []int{1, 2, 64}},
		"08ffffffffffffffff" + "02" + "0101ff" + "01010101": {Term: math.MaxUint64, Kind: api.Seats, Data: "\xff", Members: []int{1}},
	} {
		s := peers.EntryBytes(entry)
		if got := fmt.Sprintf("%x", s); got != want {
			t.Errorf("EntryBytes of %+v: %s, not %s", entry, got, want)
		}
		r := peers.NewReader(s)
		if got := r.Entry(); !peers.SameEntry(got, entry) || !r.Ended() {
			t.Errorf("Entry of %x: %+v", s, got)
		}
		for n := range len(s) {
			if r := peers.NewReader(s[:n]); peers.SameEntry(r.Entry(), entry) && r.Ended() {
				t.Errorf("Entry of %x is read as a whole one", s[:n])
			}
		}
	}
	if got := fmt.Sprintf("%x", peers.IdBytes(nil)+peers.IdBytes([]int{3, 64})); got != "00"+"0102"+"0103"+"0140" {
		t.Errorf("IdBytes: %s", got)
	}
}

// P10.2, P12.1: entries are the same, if all is.
func TestSameEntry(t *testing.T) {
	entry := api.Entry{Term: 3, Kind: api.Seats, Data: "x", Members: []int{1, 2}}
	for _, other := range []api.Entry{
		{Term: 4, Kind: api.Seats, Data: "x", Members: []int{1, 2}},
		{Term: 3, Kind: api.Noop, Data: "x", Members: []int{1, 2}},
		{Term: 3, Kind: api.Seats, Data: "y", Members: []int{1, 2}},
		{Term: 3, Kind: api.Seats, Data: "x", Members: []int{1, 3}},
		{Term: 3, Kind: api.Seats, Data: "x", Members: []int{1}},
	} {
		if peers.SameEntry(entry, other) || peers.SameEntry(other, entry) || !peers.SameEntry(other, other) {
			t.Errorf("SameEntry of %+v, %+v", entry, other)
		}
	}
	if !peers.SameEntry(api.Entry{Term: 1}, api.Entry{Term: 1, Members: []int{}}) {
		t.Error("none and nothing of members are not the same")
	}
}

// P10.6, P12.2: what is at its bound is read, one more is not, and there is nothing behind a fault.
func TestReaderBounds(t *testing.T) {
	all := make([]int, api.MaxNodes)
	for i := range all {
		all[i] = i + 1
	}
	for _, one := range []struct {
		why  string
		s    string
		read func(r *peers.Reader) any
		want any
	}{
		{"a byte at its bound", "\x02", func(r *peers.Reader) any { return r.ByteUpTo(2) }, byte(2)},
		{"a byte above it", "\x03", func(r *peers.Reader) any { return r.ByteUpTo(2) }, nil},
		{"no byte", "", func(r *peers.Reader) any { return r.ByteUpTo(255) }, nil},
		{"the greatest id", code.Num(64), func(r *peers.Reader) any { return r.Id() }, 64},
		{"an id above it", code.Num(65), func(r *peers.Reader) any { return r.Id() }, nil},
		{"an id that goes round", code.Num(1<<32 + 1), func(r *peers.Reader) any { return r.Id() }, nil},
		{"no id", code.Num(0), func(r *peers.Reader) any { return r.Id() }, 0},
		{"all ids", peers.IdBytes(all), func(r *peers.Reader) any { return r.Ids() }, all},
		{"one more", code.Num(65) + peers.IdBytes(all)[2:] + code.Num(1), func(r *peers.Reader) any { return r.Ids() }, nil},
		{"the greatest number", code.Num(math.MaxUint64), func(r *peers.Reader) any { return r.Num() }, uint64(math.MaxUint64)},
		{"a number of two forms", "\x02\x00\x01", func(r *peers.Reader) any { return r.Num() }, nil},
		{"a text", code.Text("ab"), func(r *peers.Reader) any { return r.Text() }, "ab"},
		{"a text that is too short", code.Text("ab")[:3], func(r *peers.Reader) any { return r.Text() }, nil},
		{"an entry of no kind", "\x01\x01\x03\x00\x00", func(r *peers.Reader) any { return r.Entry() }, nil},
		{"entries at their bound", code.Num(2) + peers.EntryBytes(api.Entry{Term: 1}) + peers.EntryBytes(api.Entry{Term: 2}),
			func(r *peers.Reader) any { return len(r.Entries(2)) }, 2},
		{"entries above it", code.Num(2) + peers.EntryBytes(api.Entry{Term: 1}) + peers.EntryBytes(api.Entry{Term: 2}),
			func(r *peers.Reader) any { return len(r.Entries(1)) }, nil},
	} {
		r := peers.NewReader(one.s)
		got := one.read(r)
		if one.want == nil {
			if r.Ended() || r.Num() != 0 || r.Text() != "" || r.Ended() {
				t.Errorf("%s: %v, and no fault", one.why, got)
			}
			continue
		}
		if !reflect.DeepEqual(got, one.want) || !r.Ended() {
			t.Errorf("%s: %v, not %v", one.why, got, one.want)
		}
		r = peers.NewReader(one.s + "\x00")
		if one.read(r); r.Ended() {
			t.Errorf("%s: nothing stands behind it", one.why)
		}
	}
}

// P0.1: entries that are said to be very many make no more work than there are bytes.
func TestReaderMany(t *testing.T) {
	entry := peers.EntryBytes(api.Entry{Term: 1})
	r := peers.NewReader(code.Num(1<<40) + entry + entry)
	if l := r.Entries(1 << 41); len(l) > 3 || r.Ended() {
		t.Errorf("%d entries of two", len(l))
	}
	r = peers.NewReader(code.Num(2) + entry + entry + "x")
	l := r.Entries(9)
	if !slices.EqualFunc(l, []api.Entry{{Term: 1}, {Term: 1}}, peers.SameEntry) || r.Ended() {
		t.Errorf("two entries with something behind them: %+v", l)
	}
}
