package keep_test

import (
	"fmt"
	"math"
	"math/rand"
	"slices"
	"strings"
	"testing"
	"time"

	"tessera/api"
	"tessera/keep"
)

// P12.2: a new member that may not be is ErrArg at 0, whatever the records are.
func TestFoldArguments(t *testing.T) {
	many := make([]int, api.MaxNodes+1)
	for i := range many {
		many[i] = i + 1
	}
	for _, one := range []struct {
		id, wait int
		members  []int
	}{
		{0, 10, []int{1}}, {-1, 10, []int{1}}, {65, 10, []int{1}}, {math.MaxInt, 10, []int{1}}, {math.MinInt, 10, []int{1}},
		{1, 0, []int{1}}, {1, -1, []int{1}}, {1, 1<<30 + 1, []int{1}}, {1, math.MaxInt, []int{1}},
		{1, 10, nil}, {1, 10, []int{}}, {1, 10, []int{2, 1}}, {1, 10, []int{1, 1}}, {1, 10, []int{0}}, {1, 10, []int{65}}, {1, 10, many},
	} {
		for _, records := range [][]string{nil, {hOf(1, 1)}, {"", "x"}, {hOf(1, 1), "x"}} {
			if p, at, e := keep.Fold(one.id, one.wait, one.members, records...); e != api.ErrArg || at != 0 || !equal(p, api.Peer{}) {
				t.Errorf("Fold of %+v and %q: %+v, %d, %v", one, records, p, at, e)
			}
		}
	}
	for _, one := range []struct {
		id, wait int
		members  []int
	}{{64, 1 << 30, many[:64]}, {1, 1, []int{1}}, {5, 1, []int{1, 2}}} {
		p, at, e := keep.Fold(one.id, one.wait, one.members)
		want := api.Peer{Id: one.id, Wait: one.wait, Members: one.members, BaseMembers: one.members}
		if e != api.OK || at != 0 || !equal(p, want) {
			t.Errorf("Fold of %+v and no records: %+v, %d, %v", one, p, at, e)
		}
	}
}

// made is records that make the follower of these tests, as it is kept.
func made() []string { return []string{nOf(follower())} }

// done is a record behind those that make the follower, and what comes of it; nothing, if it may not stand there.
type done struct {
	why    string
	record string
	to     func(p *api.Peer)
}

// P12.2: what each record does, and where it may not stand.
func TestFold(t *testing.T) {
	x := api.Entry{Term: 6, Data: "x"}
	seats := api.Entry{Term: 6, Kind: api.Seats, Members: []int{4}}
	other := with(follower(), func(p *api.Peer) {
		p.Term, p.Vote, p.Base, p.BaseTerm, p.BaseMembers, p.Snap, p.Log, p.Members = 3, 0, 1, 1, []int{4, 5}, "", []api.Entry{{Term: 2}}, []int{4, 5}
	})
	for _, one := range []done{
		{"an N", nOf(other), func(p *api.Peer) { *p = other }},
		{"an N of the same", nOf(follower()), func(p *api.Peer) {}},
		{"an N of a new one", nOf(fresh()), func(p *api.Peer) { *p = fresh() }},
		{"an N that may not be", nOf(with(other, func(p *api.Peer) { p.Term = 1 })), nil},
		{"an N of a Base without its term", nOf(with(other, func(p *api.Peer) { p.BaseTerm = 0 })), nil},
		{"an N of a Base above the bound", nOf(with(other, func(p *api.Peer) { p.Base = top + 1 })), nil},
		{"an N of a Base at the end of numbers", nOf(with(other, func(p *api.Peer) { p.Base = math.MaxUint64 })), nil},
		{"an N of a Snap at Base 0", nOf(with(fresh(), func(p *api.Peer) { p.Snap = "s" })), nil},
		{"an N without members", nOf(with(other, func(p *api.Peer) { p.BaseMembers = nil })), nil},
		{"an N of entries that fall", nOf(with(follower(), func(p *api.Peer) { p.Log[1].Term = 1 })), nil},

		{"an H", hOf(7, 5), func(p *api.Peer) { p.Term, p.Vote = 7, 5 }},
		{"an H of the same", hOf(6, 3), func(p *api.Peer) {}},
		{"an H of the greatest Term", hOf(top, 0), func(p *api.Peer) { p.Term, p.Vote = top, 0 }},
		{"an H above that", hOf(top+1, 0), nil},
		{"an H of a Term below the last entry's", hOf(5, 0), nil},
		{"an H of Term 0", hOf(0, 0), nil},
		{"an H of the greatest Vote", hOf(6, 64), func(p *api.Peer) { p.Vote = 64 }},
		{"an H above that", hOf(6, 65), nil},
		{"an H of a Vote that goes round", "H\x01\x06\x08\xff\xff\xff\xff\xff\xff\xff\xff", nil},

		{"a B below Base", bOf(3, 2, "t", 7), nil},
		{"a B at 0", bOf(0, 0, "", 7), nil},
		{"a B at Base", bOf(4, 2, "t", 7), func(p *api.Peer) { p.Snap, p.BaseMembers = "t", []int{7} }},
		{"a B at Base of the same", bOf(4, 2, "snap", 1, 2, 3), func(p *api.Peer) {}},
		{"a B at Base of a lower term", bOf(4, 1, "t", 7), func(p *api.Peer) { base(p, 4, 1, nil) }},
		{"a B at Base of a greater term", bOf(4, 3, "t", 7), func(p *api.Peer) { base(p, 4, 3, nil) }},
		{"a B within", bOf(5, 2, "t", 7), func(p *api.Peer) { base(p, 5, 2, p.Log[1:]) }},
		{"a B at a Seats entry", bOf(6, 3, "t", 7), func(p *api.Peer) { base(p, 6, 3, p.Log[2:]) }},
		{"a B ahead of the last one", bOf(7, 5, "t", 7), func(p *api.Peer) { base(p, 7, 5, p.Log[3:]) }},
		{"a B within of a lower term", bOf(6, 2, "t", 7), func(p *api.Peer) { base(p, 6, 2, nil) }},
		{"a B within of a greater term", bOf(6, 4, "t", 7), func(p *api.Peer) { base(p, 6, 4, nil) }},
		{"a B at the last one", bOf(8, 6, "t", 7), func(p *api.Peer) { base(p, 8, 6, nil) }},
		{"a B at the last one of a lower term", bOf(8, 5, "t", 7), func(p *api.Peer) { base(p, 8, 5, nil) }},
		{"a B behind it", bOf(9, 6, "t", 7), func(p *api.Peer) { base(p, 9, 6, nil) }},
		{"a B behind it of a lower term", bOf(9, 1, "t", 7), func(p *api.Peer) { base(p, 9, 1, nil) }},
		{"a B far behind it", bOf(top, 6, "t", 7), func(p *api.Peer) { base(p, top, 6, nil) }},
		{"a B above the bound", bOf(top+1, 6, "t", 7), nil},
		{"a B at the end of numbers", bOf(math.MaxUint64, 6, "t", 7), nil},
		{"a B of a term above Term", bOf(9, 7, "t", 7), nil},
		{"a B without a term", bOf(9, 0, "t", 7), nil},
		{"a B without members", bOf(9, 6, "t"), nil},
		{"a B of members that fall", bOf(9, 6, "t", 2, 1), nil},
		{"a B of a member above the bound", bOf(9, 6, "t", 65), nil},
		{"a B of a member 0", bOf(9, 6, "t", 0), nil},

		{"a C at 0", cOf(0), nil},
		{"a C below Base", cOf(3), nil},
		{"a C at Base", cOf(4), nil},
		{"a C of all", cOf(5), func(p *api.Peer) { p.Log, p.Members = nil, []int{1, 2, 3} }},
		{"a C of the Seats", cOf(6), func(p *api.Peer) { p.Log, p.Members = p.Log[:1], []int{1, 2, 3} }},
		{"a C behind them", cOf(7), func(p *api.Peer) { p.Log = p.Log[:2] }},
		{"a C of the last one", cOf(8), func(p *api.Peer) { p.Log = p.Log[:3] }},
		{"a C above the last one", cOf(9), nil},
		{"a C at the end of numbers", cOf(math.MaxUint64), nil},

		{"an E behind the last one", eOf(9, x), func(p *api.Peer) { p.Log = append(p.Log, x) }},
		{"an E of Seats", eOf(9, seats), func(p *api.Peer) { p.Log, p.Members = append(p.Log, seats), []int{4} }},
		{"an E of a Noop", eOf(9, api.Entry{Term: 6, Kind: api.Noop}), func(p *api.Peer) { p.Log = append(p.Log, api.Entry{Term: 6, Kind: api.Noop}) }},
		{"an E at the last one", eOf(8, x), nil},
		{"an E too far", eOf(10, x), nil},
		{"an E at 0", eOf(0, x), nil},
		{"an E at Base", eOf(4, x), nil},
		{"an E at the end of numbers", eOf(math.MaxUint64, x), nil},
		{"an E of a term that falls", eOf(9, api.Entry{Term: 5, Data: "x"}), nil},
		{"an E of a term above Term", eOf(9, api.Entry{Term: 7, Data: "x"}), nil},
		{"an E of term 0", eOf(9, api.Entry{Data: "x"}), nil},
		{"an E of no kind", eOf(9, api.Entry{Term: 6, Kind: 3}), nil},
		{"an E of a Noop with data", eOf(9, api.Entry{Term: 6, Kind: api.Noop, Data: "x"}), nil},
		{"an E of Seats with data", eOf(9, api.Entry{Term: 6, Kind: api.Seats, Data: "x", Members: []int{1}}), nil},
		{"an E with members", eOf(9, api.Entry{Term: 6, Members: []int{1}}), nil},
		{"an E of Seats without members", eOf(9, api.Entry{Term: 6, Kind: api.Seats}), nil},
		{"an E of Seats that fall", eOf(9, api.Entry{Term: 6, Kind: api.Seats, Members: []int{2, 1}}), nil},
		{"an E of Seats above the bound", eOf(9, api.Entry{Term: 6, Kind: api.Seats, Members: []int{65}}), nil},

		{"no bytes", "", nil},
		{"a lower letter", strings.ToLower(hOf(7, 0)), nil},
		{"another letter", "D" + hOf(7, 0)[1:], nil},
		{"a byte 0", "\x00", nil},
	} {
		got, at, e := folded(t, one.why, fresh(), append(made(), one.record)...)
		if one.to == nil {
			if e != api.ErrKeep || at != 1 || !equal(got, api.Peer{}) {
				t.Errorf("%s: %+v, %d, %v", one.why, got, at, e)
			}
			continue
		}
		want := with(follower(), one.to)
		want = wordsKept(want)
		if want.Wait = fresh().Wait; e != api.OK || at != 2 || !equal(got, want) {
			t.Errorf("%s: %+v, %d, %v\n wanted %+v", one.why, got, at, e, want)
		}
	}
}

// base lays another Base, with the snapshot t of the group 7, and the entries behind it.
func base(p *api.Peer, at, under uint64, log []api.Entry) {
	p.Base, p.BaseTerm, p.BaseMembers, p.Snap, p.Log, p.Commit = at, under, []int{7}, "t", log, at
	*p = laid(*p, byIndex(*p))
}

// P12.2: records at the beginning, where there are no entries and no Base.
func TestFoldAtFirst(t *testing.T) {
	x := api.Entry{Term: 1, Data: "x"}
	for _, one := range []struct {
		why     string
		records []string
		at      int
		e       api.Errno
	}{
		{"an E of the first entry, without a term", []string{eOf(1, x)}, 0, api.ErrKeep},
		{"an E of the first entry", []string{hOf(1, 0), eOf(1, x)}, 2, api.OK},
		{"an E of the second one", []string{hOf(1, 0), eOf(2, x)}, 1, api.ErrKeep},
		{"an E of the third one", []string{hOf(1, 0), eOf(1, x), eOf(3, x)}, 2, api.ErrKeep},
		{"a C of nothing", []string{hOf(1, 0), cOf(1)}, 1, api.ErrKeep},
		{"a C of all, and an E there", []string{hOf(1, 0), eOf(1, x), eOf(2, x), cOf(1), eOf(1, x)}, 5, api.OK},
		{"a C, and an E behind what is gone", []string{hOf(1, 0), eOf(1, x), eOf(2, x), cOf(1), eOf(2, x)}, 4, api.ErrKeep},
		{"an H lower than an H", []string{hOf(5, 1), hOf(4, 1)}, 2, api.OK},
		{"an H of Term 0", []string{hOf(5, 1), hOf(0, 0)}, 2, api.OK},
		{"an H below an entry, which is cut off", []string{hOf(5, 1), eOf(1, api.Entry{Term: 5}), cOf(1), hOf(4, 1)}, 4, api.OK},
		{"a B of Base 0", []string{bOf(0, 0, "", 4)}, 1, api.OK},
		{"a B of Base 0 keeps the entries", []string{hOf(1, 0), eOf(1, x), bOf(0, 0, "", 4)}, 3, api.OK},
		{"a B of Base 0 with a term", []string{hOf(1, 0), bOf(0, 1, "", 4)}, 1, api.ErrKeep},
		{"a B of Base 0 with a Snap", []string{bOf(0, 0, "s", 4)}, 0, api.ErrKeep},
		{"a B twice", []string{hOf(1, 0), bOf(7, 1, "s", 4), eOf(8, x), bOf(7, 1, "", 5), eOf(9, x)}, 5, api.OK},
		{"a B behind a B", []string{hOf(1, 0), bOf(7, 1, "s", 4), bOf(6, 1, "s", 4)}, 2, api.ErrKeep},
		{"an N below a B", []string{hOf(1, 0), bOf(7, 1, "s", 4), nOf(fresh()), bOf(0, 0, "", 4)}, 4, api.OK},
		{"the first fault of several", []string{hOf(1, 0), "", "x", eOf(9, x)}, 1, api.ErrKeep},
		{"a fault ahead of an N", []string{"x", nOf(follower())}, 0, api.ErrKeep},
		{"a fault at the end", []string{nOf(follower()), hOf(9, 1), cOf(5), eOf(5, x)}, 3, api.ErrKeep},
		{"Seats cut off and laid again", []string{hOf(1, 0), eOf(1, api.Entry{Term: 1, Kind: api.Seats, Members: []int{2}}), eOf(2, x), cOf(1), eOf(1, x)}, 5, api.OK},
	} {
		if p, at, e := folded(t, one.why, fresh(), one.records...); at != one.at || e != one.e {
			t.Errorf("%s: %+v, %d, %v", one.why, p, at, e)
		}
	}
}

// records is one of each kind that may stand behind those that make the follower.
func records() []string {
	return []string{
		nOf(follower()), hOf(300, 64), bOf(6, 3, "snap", 1, 2, 64), cOf(7),
		eOf(9, api.Entry{Term: 6, Data: "data"}), eOf(9, api.Entry{Term: 6, Kind: api.Seats, Members: []int{1, 2, 64}}),
	}
}

// wrong holds Fold to ErrKeep of a record behind those that make the follower.
func wrong(t *testing.T, name, record string) {
	t.Helper()
	if p, at, e := keep.Fold(2, 10, []int{1, 2, 3}, append(made(), record)...); e != api.ErrKeep || at != 1 || !equal(p, api.Peer{}) {
		t.Errorf("%s: %x: %+v, %d, %v", name, record, p, at, e)
	}
}

// P12.2: each record with something behind it, and cut short at each byte.
func TestFoldForm(t *testing.T) {
	for _, record := range records() {
		if _, at, e := folded(t, "whole", fresh(), append(made(), record)...); at != 2 || e != api.OK {
			t.Errorf("%x: %d, %v", record, at, e)
		}
		for _, behind := range []string{"\x00", "x", record, hOf(7, 0)} {
			wrong(t, "something behind", record+behind)
		}
		for n := range len(record) {
			wrong(t, "cut short", record[:n])
		}
		wrong(t, "something ahead", "\x00"+record)
	}
}

// P12.2: each byte of each record changed to some others, and taken away: Fold says what the words say.
func TestFoldBytes(t *testing.T) {
	for _, record := range records() {
		for i := range len(record) {
			for _, b := range []byte{0, 1, 2, 3, 4, 8, 9, 64, 65, 'B', 'C', 'E', 'H', 'N', 128, 255, record[i] - 1, record[i] + 1} {
				folded(t, "a byte changed", fresh(), append(made(), record[:i]+string([]byte{b})+record[i+1:])...)
			}
			folded(t, "a byte gone", fresh(), append(made(), record[:i]+record[i+1:])...)
			folded(t, "a byte more", fresh(), append(made(), record[:i]+"\x00"+record[i:])...)
		}
	}
	for b := range 256 {
		for _, rest := range []string{"", "\x00", hOf(7, 0)[1:], cOf(5)[1:], bOf(6, 3, "", 1)[1:], eOf(9, api.Entry{Term: 6})[1:], nOf(fresh())[1:]} {
			folded(t, "a first byte", fresh(), append(made(), string([]byte{byte(b)})+rest)...)
		}
	}
}

// P12.2: numbers that are not in their one form, and lists that say they are longer than all bytes.
func TestFoldNumbers(t *testing.T) {
	for name, record := range map[string]string{
		"an H with a nought ahead":        "H\x02\x00\x07\x00",
		"an H of a number of nine bytes":  "H\x09\x01\x00\x00\x00\x00\x00\x00\x00\x00\x00",
		"a C of a number with a nought":   "C\x02\x00\x07",
		"an N of very many entries":       nOf(fresh())[:len(nOf(fresh()))-1] + wordsNum(math.MaxUint64),
		"an N of many entries":            nOf(fresh())[:len(nOf(fresh()))-1] + wordsNum(1<<40) + wordsEntry(api.Entry{Term: 1}),
		"an N of one entry too many":      nOf(fresh())[:len(nOf(fresh()))-1] + wordsNum(1),
		"an N of very many members":       "N\x00\x00\x00\x00" + wordsNum(math.MaxUint64) + "\x01\x01",
		"a B of very many members":        "B\x01\x09\x01\x06" + wordsNum(1<<62) + "\x01\x01\x00",
		"a B of a very long Snap":         "B\x01\x09\x01\x06\x01\x01\x01\x01" + wordsNum(math.MaxUint64),
		"an E of very long data":          "E\x01\x09\x01\x06\x00" + wordsNum(1<<63),
		"an E of very many members":       "E\x01\x09\x01\x06\x02\x00" + wordsNum(math.MaxUint64),
		"a B of a member that goes round": "B\x01\x09\x01\x06\x01\x01" + wordsNum(1<<32+1) + "\x00",
		"a B of a member 2^64 - 1":        "B\x01\x09\x01\x06\x01\x01" + wordsNum(math.MaxUint64) + "\x00",
	} {
		wrong(t, name, record)
	}
}

// P12.2: lists and texts at their bounds.
func TestFoldLong(t *testing.T) {
	all := make([]int, api.MaxNodes)
	for i := range all {
		all[i] = i + 1
	}
	long := strings.Repeat("\x00\xff", 1<<20)
	p := with(fresh(), func(p *api.Peer) {
		p.Term, p.Base, p.BaseTerm, p.BaseMembers, p.Snap = 9, top, 8, all, long
		p.Log = []api.Entry{{Term: 8, Data: long}, {Term: 9, Kind: api.Seats, Members: all}}
		p.Members = all
		p.Commit = top
	})
	for name, l := range map[string][]string{
		"as an N": {nOf(p)},
		"one by one": {
			hOf(9, 0), bOf(top, 8, long, all...), eOf(top+1, p.Log[0]), eOf(top+2, p.Log[1]),
		},
	} {
		got, n, e := keep.Fold(2, 10, []int{1}, l...)
		if e != api.OK || n != len(l) || !equal(got, p) {
			t.Errorf("%s: %d, %v", name, n, e)
		}
	}
	if _, at, e := keep.Fold(2, 10, []int{1}, nOf(p), bOf(top, 8, "", append(all, 65)...)); at != 1 || e != api.ErrKeep {
		t.Errorf("a B of too many members: %d, %v", at, e)
	}
}

// P0.1: very many records are folded one by one in a time that does not grow by their square.
func TestFoldMany(t *testing.T) {
	const n = 200000
	l := []string{hOf(1, 0)}
	for i := range uint64(n) {
		l = append(l, eOf(i+1, api.Entry{Term: 1}))
	}
	l = append(l, hOf(2, 0))
	begin := time.Now()
	p, at, e := keep.Fold(2, 10, []int{1, 2, 3}, l...)
	if e != api.OK || at != n+2 || len(p.Log) != n || p.Term != 2 {
		t.Errorf("%d, %v, %d entries", at, e, len(p.Log))
	}
	if used := time.Since(begin); used > 20*time.Second {
		t.Errorf("%v for %d records", used, n)
	}
}

// drawnRecord is one that may most often stand behind those that made p.
func drawnRecord(r *rand.Rand, p api.Peer) string {
	odd := r.Intn(12) == 0
	within := p.Base + uint64(r.Intn(len(p.Log)+1))
	if odd {
		within = max(p.Base, 1) - 1 + uint64(r.Intn(len(p.Log)+4))
	}
	if p.Term == 0 && !odd { // nothing else may stand here
		return hOf(1+uint64(r.Intn(2)), 0)
	}
	switch r.Intn(10) {
	case 0:
		return nOf(drawnPeer(r))
	case 1, 2:
		if odd {
			return hOf(uint64(r.Intn(int(p.Term)+1)), r.Intn(4))
		}
		return hOf(p.Term+uint64(r.Intn(2)), r.Intn(4))
	case 3:
		return drawnBase(r, p, within, odd)
	case 4:
		if !odd && len(p.Log) > 0 {
			within = p.Base + 1 + uint64(r.Intn(len(p.Log)))
		}
		return cOf(within)
	}
	if odd {
		return eOf(within, drawnEntry(r, p.Term))
	}
	return eOf(lastOf(p)+1, drawnEntry(r, lastTerm(p)+uint64(r.Intn(int(p.Term-lastTerm(p))+1))))
}

func drawnBase(r *rand.Rand, p api.Peer, at uint64, odd bool) string {
	under := p.BaseTerm
	if e, there := byIndex(p)[at]; there {
		under = e.Term
	}
	snap := ""
	if odd || at > 0 {
		snap = "snap"[:r.Intn(3)]
	}
	if odd || r.Intn(4) == 0 {
		under = uint64(r.Intn(4))
	}
	return bOf(at, under, snap, drawnGroup(r)...)
}

// spoiledRecord is a record with something changed, perhaps to what it was.
func spoiledRecord(r *rand.Rand, s string) string {
	i := r.Intn(len(s))
	switch r.Intn(4) {
	case 0:
		return s[:i]
	case 1:
		return s + string([]byte{byte(r.Intn(3))})
	case 2:
		return s[:i] + string([]byte{byte(r.Intn(4))}) + s[i:]
	}
	return s[:i] + string([]byte{s[i] + byte(r.Intn(3)) - 1}) + s[i+1:]
}

// P12.2: rows of drawn records, some with something changed, are what the words make of them.
func TestFoldDrawn(t *testing.T) {
	r := draws()
	ends, lengths := map[byte]int{}, map[int]int{}
	for range 12000 {
		p := fresh()
		var l []string
		for range r.Intn(40) {
			s := drawnRecord(r, p)
			if r.Intn(30) == 0 {
				s = spoiledRecord(r, s)
			}
			l = append(l, s)
			q, _, e := wordsFold(2, 10, []int{1, 2, 3}, l...)
			if e != api.OK {
				break
			}
			p = q
		}
		_, at, e := folded(t, "drawn", fresh(), l...)
		if t.Failed() {
			t.FailNow()
		}
		lengths[at]++
		if e == api.ErrKeep && l[at] != "" {
			ends[l[at][0]]++
		}
	}
	for _, mark := range []byte("NHBCE") {
		if ends[mark] < 50 {
			t.Errorf("what is drawn tells little: %v end by a wrong one of %c", ends, mark)
		}
	}
	long := 0
	for n, count := range lengths {
		if n > 12 {
			long += count
		}
	}
	if long < 500 {
		t.Errorf("what is drawn tells little: %v", lengths)
	}
}

// P12.2: the chapter's examples.
func TestExamples(t *testing.T) {
	p := with(fresh(), func(p *api.Peer) { p.Id = 1 })
	q := with(p, func(p *api.Peer) { p.Term, p.Vote = 1, 1 })
	l, e := keep.Diff(p, q)
	if e != api.OK || fmt.Sprintf("%x", l) != "[4801010101]" {
		t.Errorf("Diff: %x, %v", l, e)
	}
	got, n, e := keep.Fold(1, 10, []int{1, 2, 3}, l...)
	if e != api.OK || n != 1 || !equal(got, q) || got.Role != api.Follower {
		t.Errorf("Fold: %+v, %d, %v", got, n, e)
	}
	seven := with(q, func(p *api.Peer) {
		for i := range 7 {
			p.Log = append(p.Log, api.Entry{Term: 1, Data: fmt.Sprint(i)})
		}
	})
	five := with(seven, func(p *api.Peer) { p.Log[4].Data = "another one" })
	l, e = keep.Diff(seven, five)
	if e != api.OK || !slices.Equal(l, []string{cOf(5), eOf(5, five.Log[4]), eOf(6, five.Log[5]), eOf(7, five.Log[6])}) {
		t.Errorf("Diff at 5 of 7: %q, %v", l, e)
	}
	if got, at, e := keep.Fold(1, 10, []int{1, 2, 3}, eOf(2, api.Entry{Term: 1})); e != api.ErrKeep || at != 0 || !equal(got, api.Peer{}) {
		t.Errorf("Fold of an E of index 2: %+v, %d, %v", got, at, e)
	}
}
