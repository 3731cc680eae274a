package keep_test

import (
	"encoding/hex"
	"math/rand"
	"slices"
	"testing"

	"tessera/api"
	"tessera/keep"
)

// P12.1: of each role just what is kept is left.
func TestKept(t *testing.T) {
	for name, p := range roles() {
		got := keep.Kept(p)
		if !equal(got, wordsKept(p)) || !may(got) {
			t.Errorf("Kept of %s: %+v", name, got)
		}
		if again := keep.Kept(got); !equal(again, got) {
			t.Errorf("Kept of Kept of %s: %+v", name, again)
		}
	}
	want := api.Peer{
		Id: 2, Wait: 12, Members: []int{1, 2, 3, 5}, BaseMembers: []int{1, 2, 3}, Term: 6, Vote: 2, Base: 4, BaseTerm: 2, Snap: "snap",
		Log: leader().Log, Commit: 4,
	}
	if got := keep.Kept(leader()); !equal(got, want) {
		t.Errorf("Kept of a leader: %+v", got)
	}
}

// P12.1: of a member that may not be there is a zero one.
func TestKeptOfNone(t *testing.T) {
	for _, p := range spoiled() {
		if got := keep.Kept(p); !equal(got, api.Peer{}) {
			t.Errorf("Kept of %+v: %+v", p, got)
		}
	}
}

// refusedDiff holds Diff to ErrArg, with nothing beside it.
func refusedDiff(t *testing.T, name string, old, now api.Peer) {
	t.Helper()
	if l, e := keep.Diff(old, now); e != api.ErrArg || len(l) != 0 {
		t.Errorf("Diff, %s: %q, %v", name, l, e)
	}
}

// P12.1: members that may not be, unlike Ids, a Base or a Term that falls.
func TestDiffArguments(t *testing.T) {
	for _, p := range spoiled() {
		refusedDiff(t, "an old one that may not be", p, follower())
		refusedDiff(t, "a new one that may not be", fresh(), p)
		refusedDiff(t, "two that may not be", p, p)
	}
	refusedDiff(t, "unlike Ids", fresh(), with(follower(), func(p *api.Peer) { p.Id = 3 }))
	refusedDiff(t, "unlike Ids and nothing else", follower(), with(follower(), func(p *api.Peer) { p.Id = 1 }))
	lower := with(follower(), func(p *api.Peer) { p.Base, p.Commit = 3, 3 })
	refusedDiff(t, "a Base that falls by one", follower(), lower)
	refusedDiff(t, "a Base that falls to 0", follower(), with(fresh(), func(p *api.Peer) { p.Term = 6 }))
	if _, e := keep.Diff(lower, follower()); e != api.OK {
		t.Errorf("Diff, a Base that rises by one: %v", e)
	}
	higher := with(follower(), func(p *api.Peer) { p.Term = 7 })
	refusedDiff(t, "a Term that falls by one", higher, follower())
	refusedDiff(t, "a Term that falls, a Base that rises", with(fresh(), func(p *api.Peer) { p.Term = 9 }), follower())
	if _, e := keep.Diff(follower(), higher); e != api.OK {
		t.Errorf("Diff, a Term that rises by one: %v", e)
	}
}

// from is the records from a member to what is made of it.
type from struct {
	why  string
	old  api.Peer
	to   func(p *api.Peer)
	want []string
}

// P12.1: the records by hand, for each thing that may change, alone and with others.
func TestDiff(t *testing.T) {
	x, y := api.Entry{Term: 6, Data: "x"}, api.Entry{Term: 6, Data: "y"}
	seats := api.Entry{Term: 6, Kind: api.Seats, Members: []int{2, 64}}
	log := follower().Log
	for _, one := range []from{
		{"two that are the same", follower(), func(p *api.Peer) {}, nil},
		{"what is not kept alone", leader(), func(p *api.Peer) {
			p.Role, p.Lead, p.Commit, p.Idle, p.Wait, p.Round, p.Follows, p.Reads = api.Follower, 5, 8, 9, 1, 7, nil, nil
		}, nil},
		{"another Term", follower(), func(p *api.Peer) { p.Term = 7 }, []string{hOf(7, 3)}},
		{"another Vote", follower(), func(p *api.Peer) { p.Vote = 64 }, []string{hOf(6, 64)}},
		{"no Vote", follower(), func(p *api.Peer) { p.Vote = 0 }, []string{hOf(6, 0)}},
		{"another Term without a Vote", follower(), func(p *api.Peer) { p.Term, p.Vote = top, 0 }, []string{hOf(top, 0)}},
		{"an entry more", follower(), func(p *api.Peer) { p.Log = append(p.Log, x) }, []string{eOf(9, x)}},
		{"three more", follower(), func(p *api.Peer) { p.Log, p.Members = append(p.Log, x, seats, y), []int{2, 64} },
			[]string{eOf(9, x), eOf(10, seats), eOf(11, y)}},
		{"the first one of all", fresh(), func(p *api.Peer) { p.Term, p.Log = 6, []api.Entry{x} }, []string{hOf(6, 0), eOf(1, x)}},
		{"one fewer", follower(), func(p *api.Peer) { p.Log = p.Log[:3] }, []string{cOf(8)}},
		{"none any more", follower(), func(p *api.Peer) { p.Log, p.Members, p.Commit = nil, []int{1, 2, 3}, 4 }, []string{cOf(5)}},
		{"another one at the end", follower(), func(p *api.Peer) { p.Log[3] = x }, []string{cOf(8), eOf(8, x)}},
		{"another one in the midst", follower(), func(p *api.Peer) { p.Log[2].Term = 6 },
			[]string{cOf(7), eOf(7, api.Entry{Term: 6, Kind: api.Noop}), eOf(8, log[3])}},
		{"another one at the front", follower(), func(p *api.Peer) { p.Log[0].Data = "" },
			[]string{cOf(5), eOf(5, api.Entry{Term: 2}), eOf(6, log[1]), eOf(7, log[2]), eOf(8, log[3])}},
		{"another kind", follower(), func(p *api.Peer) { p.Log[2].Kind = api.Plain },
			[]string{cOf(7), eOf(7, api.Entry{Term: 5}), eOf(8, log[3])}},
		{"other Members of one", follower(), func(p *api.Peer) { p.Log[1].Members, p.Members = []int{2}, []int{2} },
			[]string{cOf(6), eOf(6, api.Entry{Term: 3, Kind: api.Seats, Members: []int{2}}), eOf(7, log[2]), eOf(8, log[3])}},
		{"another one, and fewer", follower(), func(p *api.Peer) { p.Log = []api.Entry{p.Log[0], x}; p.Members = []int{1, 2, 3} },
			[]string{cOf(6), eOf(6, x)}},
		{"another Snap alone", follower(), func(p *api.Peer) { p.Snap = "" }, []string{bOf(4, 2, "", 1, 2, 3)}},
		{"other BaseMembers alone", follower(), func(p *api.Peer) { p.BaseMembers = []int{1, 2, 3, 64} }, []string{bOf(4, 2, "snap", 1, 2, 3, 64)}},
		{"other BaseMembers at Base 0", fresh(), func(p *api.Peer) { p.BaseMembers, p.Members = []int{5}, []int{5} }, []string{bOf(0, 0, "", 5)}},
		{"another Base, entries kept behind it", follower(), func(p *api.Peer) {
			p.Base, p.BaseTerm, p.BaseMembers, p.Log, p.Commit = 6, 3, p.Members, p.Log[2:], 6
		}, []string{bOf(6, 3, "snap", 1, 2, 3, 5)}},
		{"that, and entries more", follower(), func(p *api.Peer) {
			p.Base, p.BaseTerm, p.BaseMembers, p.Log, p.Commit = 6, 3, p.Members, append(p.Log[2:], y), 6
		}, []string{bOf(6, 3, "snap", 1, 2, 3, 5), eOf(9, y)}},
		{"that, and another entry behind it", follower(), func(p *api.Peer) {
			p.Base, p.BaseTerm, p.BaseMembers, p.Log, p.Commit = 6, 3, p.Members, []api.Entry{p.Log[2], y, x}, 6
		}, []string{cOf(8), bOf(6, 3, "snap", 1, 2, 3, 5), eOf(8, y), eOf(9, x)}},
		{"another Base at the last entry", follower(), func(p *api.Peer) {
			p.Base, p.BaseTerm, p.BaseMembers, p.Log, p.Commit = 8, 6, p.Members, nil, 8
		}, []string{bOf(8, 6, "snap", 1, 2, 3, 5)}},
		{"a gap of one", follower(), func(p *api.Peer) {
			p.Base, p.BaseTerm, p.BaseMembers, p.Log, p.Commit = 9, 6, p.Members, []api.Entry{x}, 9
		}, []string{bOf(9, 6, "snap", 1, 2, 3, 5), eOf(10, x)}},
		{"a great gap", fresh(), func(p *api.Peer) {
			p.Term, p.Base, p.BaseTerm, p.Log, p.Commit = 6, top, 5, []api.Entry{x, y}, top
		}, []string{hOf(6, 0), bOf(top, 5, "", 1, 2, 3), eOf(top+1, x), eOf(top+2, y)}},
		{"another BaseTerm at another Base", follower(), func(p *api.Peer) {
			p.Base, p.BaseTerm, p.Log, p.Members, p.Commit = 6, 4, []api.Entry{x}, []int{1, 2, 3}, 6
		}, []string{cOf(7), bOf(6, 4, "snap", 1, 2, 3), eOf(7, x)}},
		{"another BaseTerm at the same Base", follower(), func(p *api.Peer) {
			p.BaseTerm, p.Log, p.Members, p.Commit = 1, nil, []int{1, 2, 3}, 4
		}, []string{cOf(5), bOf(4, 1, "snap", 1, 2, 3)}},
		{"all of it", follower(), func(p *api.Peer) {
			p.Term, p.Vote, p.Base, p.BaseTerm, p.Snap, p.Log, p.Commit = 7, 0, 5, 2, "more", []api.Entry{p.Log[1], x}, 5
		}, []string{hOf(7, 0), cOf(7), bOf(5, 2, "more", 1, 2, 3), eOf(7, x)}},
	} {
		now := with(one.old, one.to)
		got, e := keep.Diff(one.old, now)
		if e != api.OK || !slices.Equal(got, one.want) || !slices.Equal(got, wordsDiff(one.old, now)) {
			t.Errorf("%s: %q, %v\n wanted %q", one.why, got, e, one.want)
		}
		follow(t, one.why, one.old, now)
	}
}

// P12.1: the roles do not matter, and the other way round from the same entries on.
func TestDiffRoles(t *testing.T) {
	for name, old := range roles() {
		for other, now := range roles() {
			if old.Base > now.Base {
				continue
			}
			got, e := keep.Diff(old, now)
			if e != api.OK || !slices.Equal(got, wordsDiff(old, now)) {
				t.Errorf("from %s to %s: %q, %v", name, other, got, e)
			}
			follow(t, "from "+name+" to "+other, old, now)
		}
	}
}

// P12.1: the bytes of each record, by hand.
func TestRecordBytes(t *testing.T) {
	old := with(follower(), func(p *api.Peer) { p.Log[1].Members, p.Members = []int{2}, []int{2} })
	now := with(follower(), func(p *api.Peer) { p.Base, p.BaseTerm, p.Log, p.Commit, p.Term, p.Vote = 5, 2, p.Log[1:], 5, 300, 64 })
	l, e := keep.Diff(old, now)
	want := []string{
		"48" + "02012c" + "0140",
		"43" + "0106",
		"42" + "0105" + "0102" + "0103" + "0101" + "0102" + "0103" + "0104736e6170",
		"45" + "0106" + "0103" + "02" + "00" + "0104" + "0101" + "0102" + "0103" + "0105",
		"45" + "0107" + "0105" + "01" + "00" + "00",
		"45" + "0108" + "0106" + "00" + "010162" + "00",
	}
	var got []string
	for _, s := range l {
		got = append(got, hex.EncodeToString([]byte(s)))
	}
	if e != api.OK || !slices.Equal(got, want) {
		t.Errorf("Diff: %q, %v\n wanted %q", got, e, want)
	}
}

// parts says whether the entry at now's Base parts from old's, though the two have the same behind it. Such a pair
// comes of no log that layer 11 makes: an entry of one index and term has one log ahead of it. Of it P12.1 and P12.2
// say otherwise than P12.4: by P12.1 what is the same is not told again, by P12.2 the B takes it away.
func parts(old, now api.Peer) bool {
	was, is := byIndex(old), byIndex(now)
	was[old.Base] = api.Entry{Term: old.BaseTerm}
	at, there := was[now.Base]
	a, behind := was[now.Base+1]
	b, too := is[now.Base+1]
	return (!there || at.Term != now.BaseTerm) && behind && too && wordsEntry(a) == wordsEntry(b)
}

// follow holds Diff to P12.4: behind the records that made old its records make what is kept of now. Each beginning
// of them makes a member that may be, too.
func follow(t *testing.T, name string, old, now api.Peer) {
	t.Helper()
	l, e := keep.Diff(old, now)
	if e != api.OK {
		t.Errorf("%s: Diff: %v", name, e)
		return
	}
	records := append([]string{nOf(old)}, l...)
	for n := range len(records) + 1 {
		got, at, e := keep.Fold(now.Id, 77, []int{9}, records[:n]...)
		if e != api.OK || at != n {
			t.Errorf("%s: Fold of the first %d of %q: %d, %v", name, n, records, at, e)
			return
		}
		want := api.Peer{}
		switch n {
		case 1:
			want = wordsKept(old)
		case len(records):
			want = wordsKept(now)
		default:
			continue
		}
		if want.Wait = 77; !equal(got, want) {
			t.Errorf("%s: Fold of the first %d of %q: %+v\n wanted %+v", name, n, records, got, want)
		}
	}
}

// P12.1, P12.2: of a pair that parts at now's Base alone the words of the records hold, and those of what each does.
func TestPartedAtBase(t *testing.T) {
	old := with(follower(), func(p *api.Peer) { p.Log[1], p.Members = api.Entry{Term: 3, Data: "c"}, []int{1, 2, 3} })
	for _, one := range []struct {
		why  string
		to   func(p *api.Peer)
		want []string
	}{
		{"at another Base", func(p *api.Peer) { p.Base, p.BaseTerm, p.Log, p.Commit = 6, 4, p.Log[2:], 6 }, []string{bOf(6, 4, "snap", 1, 2, 3)}},
		{"at the same Base", func(p *api.Peer) { p.BaseTerm = 1 }, []string{bOf(4, 1, "snap", 1, 2, 3)}},
	} {
		now := with(old, one.to)
		got, e := keep.Diff(old, now)
		if e != api.OK || !slices.Equal(got, one.want) || !parts(old, now) {
			t.Errorf("%s: %q, %v", one.why, got, e)
		}
		p, _, e := folded(t, one.why, fresh(), append([]string{nOf(old)}, got...)...)
		if e != api.OK || len(p.Log) != 0 || p.BaseTerm != now.BaseTerm {
			t.Errorf("%s: %+v, %v", one.why, p, e)
		}
	}
}

// drawnGroup is a group of some of the numbers 1 to 4.
func drawnGroup(r *rand.Rand) []int {
	l := r.Perm(4)[:1+r.Intn(3)]
	for i := range l {
		l[i]++
	}
	slices.Sort(l)
	return l
}

func drawnEntry(r *rand.Rand, term uint64) api.Entry {
	e := api.Entry{Term: term, Kind: api.EntryKind(r.Intn(3))}
	switch e.Kind {
	case api.Plain:
		e.Data = "xyz"[:r.Intn(3)]
	case api.Seats:
		e.Members = drawnGroup(r)
	}
	return e
}

// drawnPeer is a member that may be, with few things that may be unlike, so that two of them often have some alike.
func drawnPeer(r *rand.Rand) api.Peer {
	p := api.Peer{Id: 2, BaseMembers: drawnGroup(r), Vote: r.Intn(3), Wait: 1 + r.Intn(9), Idle: r.Intn(3), Lead: r.Intn(3), Round: uint64(r.Intn(2))}
	if r.Intn(3) > 0 {
		p.Base, p.BaseTerm, p.Snap = uint64(1+r.Intn(4)), uint64(1+r.Intn(3)), "s"[:r.Intn(2)]
	}
	return grown(r, p, p.BaseTerm, r.Intn(6))
}

// grown is p with so many drawn entries more, of that term or later ones.
func grown(r *rand.Rand, p api.Peer, term uint64, n int) api.Peer {
	log := byIndex(p)
	for range n {
		term = max(1, term+uint64(r.Intn(5)/4))
		log[p.Base+uint64(len(log))+1] = drawnEntry(r, term)
	}
	p.Term = max(p.Term, term) + uint64(r.Intn(4)/3)
	p = laid(p, log)
	p.Commit = p.Base + uint64(r.Intn(len(p.Log)+1))
	return copied(p)
}

func lastTerm(p api.Peer) uint64 {
	_, term := lastEntry(p)
	return term
}

func lastEntry(p api.Peer) (index, term uint64) {
	if n := len(p.Log); n > 0 {
		return lastOf(p), p.Log[n-1].Term
	}
	return p.Base, p.BaseTerm
}

// drawnNext is what may become of a member: some of its entries gone, others behind them, a snapshot, another vote.
func drawnNext(r *rand.Rand, p api.Peer) api.Peer {
	p = copied(p)
	if r.Intn(2) == 0 {
		p.Log = p.Log[:r.Intn(len(p.Log)+1)]
		p = grown(r, p, lastTerm(p), r.Intn(4))
	}
	if r.Intn(3) == 0 {
		n := r.Intn(len(p.Log) + 1)
		q := p
		q.Log = p.Log[:n]
		p.BaseMembers = laid(p, byIndex(q)).Members
		p.Base, p.BaseTerm = lastEntry(q)
		p.Log = p.Log[n:]
		if p.Base > 0 {
			p.Snap = "snap"[:r.Intn(5)]
		}
	}
	if r.Intn(6) == 0 {
		p.Base, p.Log = p.Base+uint64(1+r.Intn(6)), nil
		p.BaseTerm = max(1, p.Term)
		p = grown(r, p, p.BaseTerm, r.Intn(3))
	}
	if r.Intn(2) == 0 {
		p.Term, p.Vote = p.Term+uint64(r.Intn(2)), r.Intn(4)
	}
	p = copied(laid(p, byIndex(p)))
	p.Commit = p.Base + uint64(r.Intn(len(p.Log)+1))
	return p
}

// pair draws two members: one that may become of the other, or two that are drawn alone.
func pair(r *rand.Rand) (old, now api.Peer) {
	old = drawnPeer(r)
	if r.Intn(2) == 0 {
		return old, drawnNext(r, old)
	}
	now = drawnPeer(r)
	if r.Intn(3) == 0 {
		now.Id = 1 + r.Intn(2)
	}
	return old, now
}

// marks is the first bytes of records, each row of the same once.
func marks(l []string) string {
	var out []byte
	for _, s := range l {
		out = append(out, s[0])
	}
	return string(slices.Compact(out))
}

// P12.1, P12.4: of drawn pairs Diff is what the words say, and Fold of it is what is kept of the new one.
func TestDrawn(t *testing.T) {
	r := draws()
	seen := map[string]int{}
	for range 40000 {
		old, now := pair(r)
		if !may(old) || !may(now) {
			t.Fatalf("what is drawn may not be: %+v, %+v", old, now)
		}
		if old.Id != now.Id || now.Base < old.Base || now.Term < old.Term {
			refusedDiff(t, "drawn", old, now)
			seen["refused"]++
			continue
		}
		got, e := keep.Diff(old, now)
		if e != api.OK || !slices.Equal(got, wordsDiff(old, now)) {
			t.Fatalf("Diff of %+v, %+v: %q, %v\n wanted %q", old, now, got, e, wordsDiff(old, now))
		}
		if parts(old, now) {
			seen["parted"]++
			folded(t, "parted", old, append([]string{nOf(old)}, got...)...)
		} else {
			seen[marks(got)]++
			follow(t, "drawn", old, now)
		}
		if t.Failed() {
			t.Fatalf("of %+v, %+v", old, now)
		}
	}
	for _, what := range []string{"refused", "", "H", "C", "B", "E", "CE", "BE", "CB", "CBE", "HC", "HB", "HE", "HCE", "HBE", "HCB", "HCBE"} {
		if seen[what] < 50 {
			t.Errorf("what is drawn tells little: %q %d times of %v", what, seen[what], seen)
		}
	}
	if seen["parted"] < 10 {
		t.Errorf("%d pairs that part at a Base alone", seen["parted"])
	}
}

// P12.4: a row of records, Diff behind Diff, from a new member on.
func TestDrawnRows(t *testing.T) {
	r := draws()
	for range 1500 {
		p := fresh()
		var records []string
		for range 1 + r.Intn(12) {
			now := drawnNext(r, p)
			l, e := keep.Diff(p, now)
			if e != api.OK {
				t.Fatal(e)
			}
			records, p = append(records, l...), now
			want := wordsKept(now)
			want.Wait = 5
			got, n, e := keep.Fold(2, 5, []int{1, 2, 3}, records...)
			if e != api.OK || n != len(records) || !equal(got, want) {
				t.Fatalf("Fold of %q: %+v, %d, %v\n wanted %+v", records, got, n, e, want)
			}
		}
	}
}
