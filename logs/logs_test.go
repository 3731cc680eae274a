package logs_test

import (
	"fmt"
	"math"
	"reflect"
	"strings"
	"testing"

	"tessera/api"
	"tessera/logs"
	"tessera/vote"
)

// The words must hold of what the tests begin with, or they would tell nothing.
func TestWords(t *testing.T) {
	for name, p := range map[string]api.Peer{
		"a follower": follower(), "a candidate": candidate(), "a leader": leader(), "one that is new": fresh(), "one alone": one(),
	} {
		if e := vote.May(p); e != api.OK {
			t.Errorf("%s: %v", name, e)
		}
	}
	for _, p := range spoiled() {
		if e := vote.May(p); e != api.ErrArg {
			t.Errorf("%+v may be: %v", p, e)
		}
	}
}

// P11.1: the entry of each index, of each role; none at or below Base, and none behind the last one.
func TestAt(t *testing.T) {
	want := map[uint64]api.Entry{
		5: {Term: 2, Data: "a"},
		6: {Term: 3, Kind: api.Seats, Members: []int{1, 2, 3, 5}},
		7: {Term: 5, Kind: api.Noop},
		8: {Term: 6, Data: "b"},
	}
	for name, p := range roles() {
		for i, entry := range want {
			if got, e := logs.At(p, i); e != api.OK || !equalLog([]api.Entry{got}, []api.Entry{entry}) {
				t.Errorf("%s: At(%d): %+v, %v", name, i, got, e)
			}
		}
		for _, i := range []uint64{0, 1, 3, 4, 9, 10, top, math.MaxUint64} {
			if got, e := logs.At(p, i); e != api.ErrNone || !reflect.DeepEqual(got, api.Entry{}) {
				t.Errorf("%s: At(%d): %+v, %v", name, i, got, e)
			}
		}
	}
}

// P11.1: the same without a Base, without entries, and with the greatest Base.
func TestAtEnds(t *testing.T) {
	empty := with(follower(), func(p *api.Peer) { p.Log, p.Members, p.Commit = nil, []int{1, 2, 3}, 4 })
	high := with(follower(), func(p *api.Peer) { p.Base, p.Commit = top, top })
	for _, c := range []struct {
		p    api.Peer
		i    uint64
		data string
		e    api.Errno
	}{
		{one(), 0, "", api.ErrNone}, {one(), 1, "a", api.OK}, {one(), 2, "", api.OK}, {one(), 3, "", api.ErrNone},
		{fresh(), 0, "", api.ErrNone}, {fresh(), 1, "", api.ErrNone}, {fresh(), math.MaxUint64, "", api.ErrNone},
		{empty, 0, "", api.ErrNone}, {empty, 4, "", api.ErrNone}, {empty, 5, "", api.ErrNone},
		{high, top, "", api.ErrNone}, {high, top + 1, "a", api.OK}, {high, top + 4, "b", api.OK}, {high, top + 5, "", api.ErrNone},
	} {
		if got, e := logs.At(c.p, c.i); e != c.e || got.Data != c.data {
			t.Errorf("At(%d) of %+v: %+v, %v", c.i, c.p, got, e)
		}
	}
}

// P11.1: ErrArg of a member that may not be, whatever the index.
func TestAtWrong(t *testing.T) {
	for _, p := range spoiled() {
		for _, i := range []uint64{0, 1, 4, 5, 8, 9, math.MaxUint64} {
			if got, e := logs.At(p, i); e != api.ErrArg || !reflect.DeepEqual(got, api.Entry{}) {
				t.Errorf("At(%d) of %+v: %+v, %v", i, p, got, e)
			}
		}
	}
}

// P11.1: the committed entries from each index on, for each Commit and role.
func TestDone(t *testing.T) {
	for name, p := range roles() {
		p.Reads = nil
		all := p.Log
		for p.Commit = 4; p.Commit <= 8; p.Commit++ {
			for _, c := range []struct{ from, first uint64 }{
				{0, 5}, {1, 5}, {3, 5}, {4, 5}, {5, 5}, {6, 6}, {7, 7}, {8, 8}, {9, 9}, {10, 10}, {top, top}, {math.MaxUint64, math.MaxUint64},
			} {
				var want []api.Entry
				for i := c.first; i <= p.Commit; i++ {
					want = append(want, all[i-5])
				}
				if got := logs.Done(p, c.from); !equalLog(got, want) {
					t.Errorf("%s: Done from %d up to %d: %+v", name, c.from, p.Commit, got)
				}
			}
		}
	}
}

// P11.1: nothing committed, no Base, the greatest Base; none of a member that may not be.
func TestDoneEnds(t *testing.T) {
	high := with(follower(), func(p *api.Peer) { p.Base, p.Commit = top, top+2 })
	both := with(one(), func(p *api.Peer) { p.Commit = 2 })
	for _, c := range []struct {
		p    api.Peer
		from uint64
		want int
	}{
		{fresh(), 0, 0}, {fresh(), 1, 0}, {one(), 0, 0}, {one(), 1, 0}, {both, 0, 2}, {both, 1, 2}, {both, 2, 1}, {both, 3, 0},
		{high, 0, 2}, {high, top, 2}, {high, top + 1, 2}, {high, top + 2, 1}, {high, top + 3, 0}, {high, math.MaxUint64, 0},
	} {
		if got := logs.Done(c.p, c.from); len(got) != c.want {
			t.Errorf("Done from %d of %+v: %+v", c.from, c.p, got)
		}
	}
	for _, p := range spoiled() {
		for _, from := range []uint64{0, 1, 4, 5, 9, math.MaxUint64} {
			if got := logs.Done(p, from); len(got) != 0 {
				t.Errorf("Done from %d of %+v: %+v", from, p, got)
			}
		}
	}
}

// proposed is a leader with an entry more.
func proposed(p api.Peer, data string) api.Peer {
	return with(p, func(p *api.Peer) { p.Log = append(p.Log, api.Entry{Term: p.Term, Data: data}) })
}

// P11.2: a leader's data is its last entry, of any bytes and up to MaxRecord of them.
func TestPropose(t *testing.T) {
	for _, data := range []string{"", "x", "\x00\xff\n", strings.Repeat("m", api.MaxRecord-1), strings.Repeat("m", api.MaxRecord)} {
		got, i, e := logs.Propose(leader(), data)
		stepped(t, fmt.Sprint(len(data), " bytes"), leader(), got, nil, e, proposed(leader(), data), nil)
		if i != 9 {
			t.Errorf("%d bytes: the index %d", len(data), i)
		}
	}
	got, i, e := logs.Propose(one(), "x")
	want := with(proposed(one(), "x"), func(p *api.Peer) { p.Commit = 3 })
	if stepped(t, "one alone", one(), got, nil, e, want, nil); i != 3 {
		t.Errorf("one alone: the index %d", i)
	}
	got, i, e = logs.Propose(got, "y")
	want = with(proposed(want, "y"), func(p *api.Peer) { p.Commit = 4 })
	if stepped(t, "one alone, again", got, got, nil, e, want, nil); i != 4 {
		t.Errorf("one alone, again: the index %d", i)
	}
}

// P11.2: by Propose a leader advances, also over what was there ahead of it.
func TestProposeAdvances(t *testing.T) {
	p := with(leader(), func(p *api.Peer) { p.Follows[2] = api.Follow{Id: 5, Next: 9, Match: 8} })
	got, i, e := logs.Propose(p, "x")
	stepped(t, "8 at three of four", p, got, nil, e, with(proposed(p, "x"), func(p *api.Peer) { p.Commit = 8 }), nil)
	if i != 9 {
		t.Errorf("the index %d", i)
	}
	high := with(leader(), func(p *api.Peer) { p.Base, p.Commit, p.Reads = top, top, nil })
	got, i, e = logs.Propose(high, "x")
	if stepped(t, "the greatest Base", high, got, nil, e, proposed(high, "x"), nil); i != top+5 {
		t.Errorf("the greatest Base: the index %d", i)
	}
}

// P11.2: ErrArg, ErrLead and ErrLong, in that order.
func TestProposeWrong(t *testing.T) {
	long := strings.Repeat("m", api.MaxRecord+1)
	check := func(name string, p api.Peer, data string, want api.Errno) {
		t.Helper()
		got, i, e := logs.Propose(p, data)
		if refused(t, name, got, nil, e, want); i != 0 {
			t.Errorf("%s: the index %d", name, i)
		}
	}
	for _, p := range spoiled() {
		check(fmt.Sprintf("%+v", p), p, "x", api.ErrArg)
		check(fmt.Sprintf("%+v", p), p, long, api.ErrArg)
	}
	for name, p := range map[string]api.Peer{"a follower": follower(), "a candidate": candidate(), "one that is new": fresh()} {
		check(name, p, "x", api.ErrLead)
		check(name+", too much", p, long, api.ErrLead)
	}
	check("a leader, too much", leader(), long, api.ErrLong)
	check("one alone, too much", one(), long+long, api.ErrLong)
}

// P11.2: who does not lead stays as it is; ErrArg of a member that may not be.
func TestAdvanceOthers(t *testing.T) {
	for name, p := range map[string]api.Peer{"a follower": follower(), "a candidate": candidate(), "one that is new": fresh()} {
		got, e := logs.Advance(p)
		stepped(t, name, p, got, nil, e, p, nil)
	}
	for _, p := range spoiled() {
		got, e := logs.Advance(p)
		refused(t, fmt.Sprintf("%+v", p), got, nil, e, api.ErrArg)
	}
}

// leading is the leader 2 of the term 6 of a group, with entries 1 to 8, of the terms 2 3 5 5 6 6 6 6, of which none is
// committed, and what the others have of them.
func leading(members []int, match ...uint64) api.Peer {
	p := api.Peer{Id: 2, Members: members, BaseMembers: members, Term: 6, Vote: 2, Role: api.Leader, Lead: 2, Wait: 10}
	for _, term := range []uint64{2, 3, 5, 5, 6, 6, 6, 6} {
		p.Log = append(p.Log, api.Entry{Term: term})
	}
	for _, id := range members {
		if id != 2 {
			p.Follows = append(p.Follows, api.Follow{Id: id, Next: match[0] + 1, Match: match[0]})
			match = match[1:]
		}
	}
	return p
}

// P11.2: a leader commits the last entry of its own Term that more than half of the members have, itself among them if
// it is one; and none of an elder Term alone.
func TestAdvance(t *testing.T) {
	three, four, five := []int{1, 2, 3}, []int{1, 2, 3, 4}, []int{1, 2, 3, 4, 5}
	without := []int{1, 3, 4} // the leader is none of them
	for _, c := range []struct {
		name   string
		p      api.Peer
		commit uint64
	}{
		{"alone", leading([]int{2}), 8},
		{"two, the other one has nothing", leading([]int{1, 2}, 0), 0},
		{"two, the other one has elder ones", leading([]int{1, 2}, 4), 0},
		{"two, the other one has the first of the Term", leading([]int{1, 2}, 5), 5},
		{"two, the other one has all", leading([]int{2, 9}, 8), 8},
		{"three, one more has some", leading(three, 6, 0), 6},
		{"three, the other one has some", leading(three, 0, 7), 7},
		{"three, both have some", leading(three, 7, 6), 7},
		{"three, an elder entry", leading(three, 4, 4), 0},
		{"three, an elder entry and the last one", leading(three, 3, 8), 8},
		{"four, just half", leading(four, 8, 0, 0), 0},
		{"four, one more than half", leading(four, 8, 0, 5), 5},
		{"four, turned round", leading(four, 0, 6, 7), 6},
		{"four, an elder entry at all", leading(four, 4, 4, 4), 0},
		{"four, an elder entry in the midst", leading(four, 8, 4, 4), 0},
		{"five, just two", leading(five, 8, 4, 0, 0), 0},
		{"five, three", leading(five, 0, 7, 0, 8), 7},
		{"five, falling", leading(five, 8, 7, 6, 5), 7},
		{"five, rising", leading(five, 5, 6, 7, 8), 7},
		{"none of its Members, one of three", leading(without, 8, 0, 4), 0},
		{"none of its Members, two of three", leading(without, 8, 0, 6), 6},
		{"none of its Members, all", leading(without, 7, 6, 5), 6},
		{"none of its Members, another one alone", leading([]int{1}, 6), 6},
		{"none of its Members, another one alone with nothing", leading([]int{1}, 0), 0},
		{"none of its Members, two, just half", leading([]int{1, 3}, 8, 4), 0},
		{"none of its Members, two, both", leading([]int{1, 3}, 8, 5), 5},
	} {
		got, e := logs.Advance(c.p)
		stepped(t, c.name, c.p, got, nil, e, with(c.p, func(p *api.Peer) { p.Commit = c.commit }), nil)
		for commit := range uint64(9) { // from what is committed already it goes up, never down
			from := with(c.p, func(p *api.Peer) { p.Commit = commit })
			got, e := logs.Advance(from)
			want := with(c.p, func(p *api.Peer) { p.Commit = max(commit, c.commit) })
			stepped(t, fmt.Sprint(c.name, ", from ", commit), from, got, nil, e, want, nil)
		}
	}
}

// P11.2: a Match below a leader's Base, or at it, commits nothing; nor has it entries of its own Term then.
func TestAdvanceBase(t *testing.T) {
	for match := range uint64(9) {
		p := with(leader(), func(p *api.Peer) { p.Follows[2] = api.Follow{Id: 5, Next: 9, Match: match} })
		got, e := logs.Advance(p)
		want := with(p, func(p *api.Peer) {
			if match == 8 {
				p.Commit = 8
			}
		})
		stepped(t, fmt.Sprint("the third one has ", match), p, got, nil, e, want, nil)
	}
	bare := with(leader(), func(p *api.Peer) {
		p.Log, p.Members, p.Commit, p.Reads, p.Term, p.BaseTerm = nil, []int{1, 2, 3}, 4, nil, 6, 6
		p.Follows = []api.Follow{{Id: 1, Next: 5, Match: 4}, {Id: 3, Next: 5, Match: 4}}
	})
	got, e := logs.Advance(bare)
	stepped(t, "a log that is cut off at its end", bare, got, nil, e, bare, nil)
}

// The chapter's examples.
func TestExamples(t *testing.T) {
	p, _ := vote.New(1, 10, 1, 2, 3)
	for range 10 {
		p, _, _ = logs.Tick(p, 13)
	}
	p, _, e := vote.Take(p, api.Msg{Kind: api.Told, From: 2, To: 1, Term: 1, Ok: true})
	if e != api.OK || p.Role != api.Leader {
		t.Fatalf("layer 10's example: %+v, %v", p, e)
	}
	p, i, e := logs.Propose(p, "x")
	if e != api.OK || i != 2 || p.Commit != 0 {
		t.Errorf("Propose(x): %+v, %d, %v", p, i, e)
	}
	m, e := logs.Send(p, 2)
	entries := []api.Entry{{Term: 1, Kind: api.Noop}, {Term: 1, Data: "x"}}
	if e != api.OK || !equalMsg(m, api.Msg{Kind: api.Lay, From: 1, To: 2, Term: 1, Entries: entries}) {
		t.Errorf("Send to 2: %+v, %v", m, e)
	}
	q, _ := vote.New(2, 10, 1, 2, 3)
	q, sent, e := logs.Take(q, m)
	if e != api.OK || !equalMsgs(sent, []api.Msg{{Kind: api.Heard, From: 2, To: 1, Term: 1, Ok: true, Index: 2}}) || !equalLog(q.Log, entries) {
		t.Fatalf("2 takes it: %+v, %+v, %v", q, sent, e)
	}
	p, sent, e = logs.Take(p, sent[0])
	if e != api.OK || len(sent) != 0 || p.Follows[0] != (api.Follow{Id: 2, Next: 3, Match: 2}) || p.Commit != 2 {
		t.Errorf("the Leader takes that: %+v, %+v, %v", p, sent, e)
	}
	r, _ := vote.New(3, 10, 1, 2, 3)
	r, sent, e = logs.Take(r, api.Msg{Kind: api.Lay, From: 1, To: 3, Term: 1, Index: 5, LogTerm: 1})
	if e != api.OK || !equalMsgs(sent, []api.Msg{{Kind: api.Heard, From: 3, To: 1, Term: 1}}) {
		t.Errorf("3 with an empty log takes Lay of Index 5: %+v, %+v, %v", r, sent, e)
	}
	alone, _ := vote.New(1, 1, 1)
	alone, _, _ = logs.Tick(alone, 0)
	if alone, _, e = logs.Propose(alone, "x"); e != api.OK || alone.Commit != 2 {
		t.Errorf("one alone: %+v, %v", alone, e)
	}
}
