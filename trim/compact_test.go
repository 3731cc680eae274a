package trim_test

import (
	"fmt"
	"math"
	"slices"
	"strings"
	"testing"

	"tessera/api"
	"tessera/disk"
	"tessera/keep"
	"tessera/logs"
	"tessera/trim"
	"tessera/vote"
	"tessera/wal"
)

// P13.1, P13.2: the chapter's examples, one behind the other.
func TestExamples(t *testing.T) {
	p, _ := vote.New(1, 1, 1, 2, 3)
	p, _, _ = logs.Tick(p, 0)
	p, _, _ = trim.Step(p, api.Msg{Kind: api.Told, From: 2, To: 1, Term: 1, Ok: true})
	p, _, _ = logs.Propose(p, "x")
	p, _, _ = trim.Step(p, api.Msg{Kind: api.Heard, From: 2, To: 1, Term: 1, Ok: true, Index: 2})
	p, _, e := logs.Propose(p, "y")
	if e != api.OK || p.Role != api.Leader || p.Commit != 2 || len(p.Log) != 3 {
		t.Fatalf("the leader: %+v, %v", p, e)
	}
	q, e := trim.Compact(p, 2, "s")
	want := with(p, func(p *api.Peer) {
		p.Base, p.BaseTerm, p.Snap, p.Log = 2, 1, "s", []api.Entry{{Term: 1, Data: "y"}}
	})
	if e != api.OK || !equal(q, want) {
		t.Fatalf("Compact(2, s): %+v, %v", q, e)
	}
	m, e := logs.Send(q, 3)
	if e != api.OK || !equalMsg(m, api.Msg{Kind: api.Install, From: 1, To: 3, Term: 1, Index: 2, LogTerm: 1, Members: []int{1, 2, 3}, Snap: "s"}) {
		t.Errorf("Send: %+v, %v", m, e)
	}
	n, _ := vote.New(3, 10, 1, 2, 3)
	n, sent, e := trim.Take(n, m)
	if e != api.OK || n.Base != 2 || n.Commit != 2 || n.Snap != "s" || n.BaseTerm != 1 || len(n.Log) != 0 || n.Term != 1 || n.Lead != 1 {
		t.Errorf("a new member: %+v, %v", n, e)
	}
	if !equalMsgs(sent, []api.Msg{{Kind: api.Heard, From: 3, To: 1, Term: 1, Ok: true, Index: 2}}) {
		t.Errorf("a new member sends %+v", sent)
	}
	for to, p := range map[uint64]api.Peer{5: p, 2: q} {
		got, e := trim.Compact(p, to, "s")
		refused(t, fmt.Sprint("Compact to ", to), got, nil, e, api.ErrArg)
	}
}

// P13.1: cut off at each index from one above Base to Commit, of each role: what is behind stays as it is, and so does
// all else.
func TestCompact(t *testing.T) {
	type cut struct {
		to, term uint64
		members  []int
	}
	for name, p := range roles() {
		for _, c := range []cut{{5, 2, []int{1, 2, 3}}, {6, 3, []int{2, 3}}, {7, 5, []int{2, 3}}, {8, 5, []int{2, 3}}} {
			for _, snap := range []string{"", "other", "\x00\xff"} {
				want := with(p, func(p *api.Peer) {
					p.Base, p.BaseTerm, p.BaseMembers, p.Snap, p.Log = c.to, c.term, c.members, snap, p.Log[c.to-4:]
				})
				got, e := trim.Compact(p, c.to, snap)
				stepped(t, fmt.Sprint(name, " to ", c.to), p, got, nil, e, want, nil)
			}
		}
	}
}

// P13.1: with all entries committed a log is cut off up to its last one, and nothing is left; so is one that has no
// snapshot yet, and one of a member alone.
func TestCompactWhole(t *testing.T) {
	for name, p := range roles() {
		p.Commit = 10
		for to := uint64(5); to <= 10; to++ {
			want := copied(p)
			wordsCompact(&want, to, "all")
			got, e := trim.Compact(p, to, "all")
			stepped(t, fmt.Sprint(name, " to ", to), p, got, nil, e, want, nil)
		}
		got, _ := trim.Compact(p, 10, "all")
		want := with(p, func(p *api.Peer) {
			p.Base, p.BaseTerm, p.BaseMembers, p.Snap, p.Log = 10, 6, []int{1, 2, 3, 5}, "all", nil
		})
		if !equal(got, want) {
			t.Errorf("%s, up to the last one: %+v", name, got)
		}
	}
	p := with(one(), func(p *api.Peer) { p.Commit = 2 })
	got, e := trim.Compact(p, 1, "s")
	stepped(t, "one alone, to 1", p, got, nil, e, with(p, func(p *api.Peer) { p.Base, p.BaseTerm, p.Snap, p.Log = 1, 1, "s", p.Log[1:] }), nil)
	got, e = trim.Compact(p, 2, "s")
	stepped(t, "one alone, to 2", p, got, nil, e, with(p, func(p *api.Peer) { p.Base, p.BaseTerm, p.Snap, p.Log = 2, 3, "s", nil }), nil)
}

// P13.1: one cut behind another one is the last of them alone.
func TestCompactAgain(t *testing.T) {
	for name, p := range roles() {
		for first := uint64(5); first < 8; first++ {
			for second := first + 1; second <= 8; second++ {
				a, e := trim.Compact(p, first, "first")
				if e != api.OK {
					t.Fatal(e)
				}
				a, e = trim.Compact(a, second, "second")
				b, f := trim.Compact(p, second, "second")
				if e != api.OK || f != api.OK || !equal(a, b) {
					t.Errorf("%s to %d and %d: %+v, %v\n and %+v, %v", name, first, second, a, e, b, f)
				}
			}
		}
	}
}

// P13.1: ErrArg of an index at Base or below, and above Commit, be there an entry or not; of a member that may not be.
func TestCompactWrong(t *testing.T) {
	for name, p := range roles() {
		for _, to := range []uint64{0, 1, 3, 4, 9, 10, 11, 12, top, top + 1, math.MaxUint64 - 3, math.MaxUint64} {
			got, e := trim.Compact(p, to, "s")
			refused(t, fmt.Sprint(name, " to ", to), got, nil, e, api.ErrArg)
		}
	}
	for _, to := range []uint64{0, 1, math.MaxUint64} {
		got, e := trim.Compact(fresh(), to, "")
		refused(t, fmt.Sprint("a new one to ", to), got, nil, e, api.ErrArg)
		got, e = trim.Compact(one(), to, "")
		refused(t, fmt.Sprint("one that has committed nothing to ", to), got, nil, e, api.ErrArg)
	}
	for _, p := range spoiled() {
		for _, to := range []uint64{0, 1, 5, 8, 10, p.Base + 1, p.Commit, math.MaxUint64} {
			got, e := trim.Compact(p, to, "s")
			refused(t, fmt.Sprintf("to %d of %+v", to, p), got, nil, e, api.ErrArg)
		}
	}
}

// P13.1: ErrLong of a snapshot of more than MaxRecord - 2^12 bytes, but ErrArg comes first.
func TestCompactLong(t *testing.T) {
	just, more := strings.Repeat("x", longest), strings.Repeat("x", longest+1)
	for name, p := range roles() {
		got, e := trim.Compact(p, 7, just)
		want := copied(p)
		wordsCompact(&want, 7, just)
		if e != api.OK || !equal(got, want) {
			t.Errorf("%s, a snapshot that is just not too long: %v", name, e)
		}
		got, e = trim.Compact(p, 7, more)
		refused(t, name+", one byte more", got, nil, e, api.ErrLong)
		for _, to := range []uint64{0, 4, 9, 11, math.MaxUint64} {
			got, e = trim.Compact(p, to, more)
			refused(t, fmt.Sprint(name, ", too long, to ", to), got, nil, e, api.ErrArg)
		}
	}
	for _, p := range spoiled() {
		got, e := trim.Compact(p, 7, more)
		refused(t, fmt.Sprintf("too long, of %+v", p), got, nil, e, api.ErrArg)
	}
	got, e := trim.Compact(with(one(), func(p *api.Peer) { p.Commit = 2 }), 2, strings.Repeat("x", 1<<21))
	refused(t, "very long", got, nil, e, api.ErrLong)
}

// P13.1: the longest snapshot has room in a record with as many members as there may be, and in a packet.
func TestLongestIsKept(t *testing.T) {
	all := make([]int, api.MaxNodes)
	for i := range all {
		all[i] = i + 1
	}
	old := with(follower(), func(p *api.Peer) {
		p.Term, p.BaseMembers, p.Log[0], p.Commit = top, all, api.Entry{Term: 2, Kind: api.Seats, Members: all}, 5
	})
	p, e := trim.Compact(old, 5, strings.Repeat("\xff", longest))
	if e != api.OK {
		t.Fatal(e)
	}
	w, _ := wal.Open(disk.New(1<<23), "w")
	if e := keep.Save(w, old, p); e != api.OK {
		t.Errorf("Save: %v", e)
	}
	if e := keep.Trim(w, p); e != api.OK {
		t.Errorf("Trim: %v", e)
	}
	if got, e := keep.Load(w, 2, 12, all...); e != api.OK || !equal(got, keep.Kept(p)) {
		t.Errorf("Load: %v", e)
	}
	m := installOf(5, 2)
	m.Members, m.Snap = p.BaseMembers, p.Snap
	if s, e := vote.Bytes(m); e != api.OK || len(s) > api.MaxPacket {
		t.Errorf("a message of %d bytes: %v", len(s), e)
	}
}

// P0.1, P10.7: at the end of what a member may have, an index above 2^62 is none that a log is cut off at.
func TestCompactHighest(t *testing.T) {
	for name, p := range roles() {
		p.Reads = nil
		p.Base, p.Commit, p.Term = top-2, top+2, top
		for i := range p.Follows {
			p.Follows[i].Next, p.Follows[i].Match = top+uint64(i), top-uint64(i)-1
		}
		if e := vote.May(p); e != api.OK {
			t.Fatalf("%s: %v", name, e)
		}
		for to := top - 4; to <= top+6; to++ {
			got, e := trim.Compact(p, to, "s")
			if to <= top-2 || to > top {
				refused(t, fmt.Sprint(name, " to ", to), got, nil, e, api.ErrArg)
				continue
			}
			want := copied(p)
			wordsCompact(&want, to, "s")
			stepped(t, fmt.Sprint(name, " to ", to), p, got, nil, e, want, nil)
		}
	}
}

// asked holds what the layers below tell of a member that was cut off to what they told of it ahead: P13.4.
func asked(t *testing.T, p, q api.Peer) {
	t.Helper()
	index, term := vote.Last(p)
	if i, own := vote.Last(q); i != index || own != term || !slices.Equal(p.Members, q.Members) || p.Commit != q.Commit {
		t.Errorf("the last entry, the members or what is committed of %+v\n is another one of %+v", p, q)
	}
	for i := q.Base; i <= index+1; i++ {
		a, there := vote.Term(p, i)
		b, still := vote.Term(q, i)
		if a != b || there != still || !slices.Equal(vote.Members(p, i), vote.Members(q, i)) || !equalLog(logs.Done(p, max(i, q.Base+1)), logs.Done(q, i)) {
			t.Errorf("at %d of %+v\n and of %+v", i, p, q)
		}
		if i > q.Base {
			a, e := logs.At(p, i)
			b, f := logs.At(q, i)
			if e != f || !equalLog([]api.Entry{a}, []api.Entry{b}) {
				t.Errorf("the entry %d: %+v, %v and %+v, %v", i, a, e, b, f)
			}
		}
	}
	for to := range 7 {
		askedSend(t, p, q, to)
	}
}

func askedSend(t *testing.T, p, q api.Peer, to int) {
	t.Helper()
	a, e := logs.Send(p, to)
	b, f := logs.Send(q, to)
	if e == api.OK && (a.Kind == api.Install || a.Index < q.Base) {
		a = api.Msg{
			Kind: api.Install, From: p.Id, To: to, Term: p.Term, Index: q.Base, LogTerm: q.BaseTerm,
			Members: seatedAt(p, q.Base), Snap: q.Snap, Round: p.Round,
		}
	}
	if e != f || !equalMsg(a, b) {
		t.Errorf("Send to %d: %+v, %v\n ahead of the cut %+v, %v", to, b, f, a, e)
	}
}

// P13.4: Compact changes neither Members nor the last entry nor what is committed, nor what is sent, but that what went
// is an Install, whatever a leader knows of the others.
func TestCompactChangesNothing(t *testing.T) {
	for name, from := range roles() {
		for commit := uint64(4); commit <= 10; commit++ {
			from.Commit, from.Reads = commit, nil
			for to := uint64(5); to <= commit; to++ {
				for next := uint64(1); next <= 11; next++ {
					p := copied(from)
					for i := range p.Follows {
						p.Follows[i].Next = 1 + (next+uint64(4*i))%11
						p.Follows[i].Match = p.Follows[i].Next - 1
					}
					q, e := trim.Compact(p, to, "s")
					if e != api.OK {
						t.Fatalf("%s: %v", name, e)
					}
					asked(t, p, q)
				}
			}
		}
	}
}

// P13.4: a leader's next beat, behind a cut, is what it was, but that what went is an Install.
func TestCompactBeat(t *testing.T) {
	p := with(leader(), func(p *api.Peer) { p.Idle = 2 })
	q, e := trim.Compact(p, 7, "s")
	if e != api.OK {
		t.Fatal(e)
	}
	_, sent, e := logs.Tick(q, 0)
	install := api.Msg{Kind: api.Install, From: 2, To: 3, Term: 6, Index: 7, LogTerm: 5, Members: []int{2, 3}, Snap: "s", Round: 3}
	want := []api.Msg{
		{Kind: api.Lay, From: 2, To: 1, Term: 6, Index: 10, LogTerm: 6, Commit: 8, Round: 3},
		install, withMsg(install, func(m *api.Msg) { m.To = 5 }),
	}
	if e != api.OK || !equalMsgs(sent, want) {
		t.Errorf("%+v, %v", sent, e)
	}
	p.Follows[2] = api.Follow{Id: 5, Next: 8}
	q, _ = trim.Compact(p, 7, "s")
	m, e := logs.Send(q, 5)
	lay := api.Msg{Kind: api.Lay, From: 2, To: 5, Term: 6, Index: 7, LogTerm: 5, Commit: 8, Round: 3, Entries: p.Log[3:]}
	if e != api.OK || !equalMsg(m, lay) {
		t.Errorf("just behind the cut: %+v, %v", m, e)
	}
}
