package vote_test

import (
	"fmt"
	"math"
	"slices"
	"testing"

	"tessera/api"
	"tessera/vote"
)

// P10.1: of an id, a wait and members that may be New is a Follower with nothing else; at each bound, and whether
// it is one of the members or not.
func TestNew(t *testing.T) {
	all := make([]int, api.MaxNodes)
	for i := range all {
		all[i] = i + 1
	}
	for _, members := range [][]int{{1}, {64}, {2, 3}, {1, 2, 3}, {1, 63, 64}, all} {
		for _, id := range []int{1, 2, 3, 63, api.MaxNodes} {
			for _, wait := range []int{1, 2, 10, topTicks - 1, topTicks} {
				p, e := vote.New(id, wait, members...)
				want := api.Peer{Id: id, Wait: wait, Members: members, BaseMembers: members}
				if e != api.OK || !equal(p, want) {
					t.Errorf("New(%d, %d, %v): %+v, %v", id, wait, members, p, e)
				}
				if e := vote.May(p); e != api.OK {
					t.Errorf("May of New(%d, %d, %v): %v", id, wait, members, e)
				}
			}
		}
	}
}

// P10.1: New is ErrArg, and a zero member, if one of its arguments may not be.
func TestNewWrong(t *testing.T) {
	many := make([]int, api.MaxNodes+1)
	for i := range many {
		many[i] = i + 1
	}
	for _, c := range []struct {
		id, wait int
		members  []int
	}{
		{0, 10, []int{1, 2, 3}}, {-1, 10, []int{1, 2, 3}}, {65, 10, []int{1, 2, 3}}, {0, 1, []int{1}},
		{math.MaxInt, 10, []int{1}}, {math.MinInt, 10, []int{1}}, {1<<32 + 1, 10, []int{1}},
		{1, 0, []int{1}}, {1, -1, []int{1}}, {1, topTicks + 1, []int{1}}, {1, math.MaxInt, []int{1}}, {1, math.MinInt, []int{1}},
		{1, 10, nil}, {1, 10, []int{}}, {1, 10, many},
		{1, 10, []int{2, 1}}, {1, 10, []int{1, 3, 2}}, {1, 10, []int{1, 1}}, {1, 10, []int{1, 2, 2}}, {1, 10, []int{1, 2, 1}},
		{1, 10, []int{0}}, {1, 10, []int{0, 1}}, {1, 10, []int{-1, 1}}, {1, 10, []int{1, 65}}, {1, 10, []int{math.MinInt, 1, math.MaxInt}},
	} {
		if p, e := vote.New(c.id, c.wait, c.members...); e != api.ErrArg || !zeroPeer(p) {
			t.Errorf("New(%d, %d, %v): %+v, %v", c.id, c.wait, c.members, p, e)
		}
	}
}

// change is a member that one change makes of another one, and whether it may be.
type change struct {
	name string
	from func() api.Peer
	to   func(p *api.Peer)
	want api.Errno
}

func checkChanges(t *testing.T, l []change) {
	t.Helper()
	for _, c := range l {
		p := c.from()
		c.to(&p)
		if got := vote.May(p); got != c.want || memberMay(p) != (c.want == api.OK) {
			t.Errorf("%s: %v, by the words %v", c.name, got, memberMay(p))
		}
	}
}

// fresh is a member without a snapshot and a log.
func fresh() api.Peer {
	return api.Peer{Id: 2, Members: []int{1, 2}, BaseMembers: []int{1, 2}, Wait: 1}
}

// P10.1: May is OK of the members that the tests begin with, and ErrArg of a zero one.
func TestMay(t *testing.T) {
	for _, p := range []api.Peer{fresh(), follower(), candidate(), leader()} {
		if e := vote.May(p); e != api.OK {
			t.Errorf("May(%+v): %v", p, e)
		}
	}
	if e := vote.May(api.Peer{}); e != api.ErrArg {
		t.Errorf("May of a zero member: %v", e)
	}
}

// P10.1: of each role each number of a member at its bounds and behind them.
func TestMayNumbers(t *testing.T) {
	var l []change
	for role, from := range map[string]func() api.Peer{"follower": follower, "candidate": candidate, "leader": leader} {
		add := func(name string, want api.Errno, to func(p *api.Peer)) {
			l = append(l, change{role + ": " + name, from, to, want})
		}
		for wait, want := range map[int]api.Errno{
			1: api.OK, topTicks: api.OK, 0: api.ErrArg, -1: api.ErrArg, topTicks + 1: api.ErrArg, math.MaxInt: api.ErrArg,
		} {
			add(fmt.Sprint("Wait ", wait), want, func(p *api.Peer) { p.Wait = wait })
		}
		for idle, want := range map[int]api.Errno{
			0: api.OK, 1: api.OK, 12: api.OK, 13: api.OK, topTicks: api.OK, -1: api.ErrArg, topTicks + 1: api.ErrArg, math.MinInt: api.ErrArg,
		} {
			add(fmt.Sprint("Idle ", idle), want, func(p *api.Peer) { p.Idle = idle })
		}
		for term, want := range map[uint64]api.Errno{
			5: api.OK, 6: api.OK, top: api.OK, 0: api.ErrArg, 4: api.ErrArg, top + 1: api.ErrArg, math.MaxUint64: api.ErrArg,
		} {
			add(fmt.Sprint("Term ", term), want, func(p *api.Peer) { p.Term = term })
		}
		for round, want := range map[uint64]api.Errno{
			3: api.OK, 4: api.OK, top: api.OK, top + 1: api.ErrArg, math.MaxUint64: api.ErrArg,
		} {
			add(fmt.Sprint("Round ", round), want, func(p *api.Peer) { p.Round = round })
		}
		for base, want := range map[uint64]api.Errno{top: api.OK, top + 1: api.ErrArg, math.MaxUint64 - 1: api.ErrArg} {
			add(fmt.Sprint("Base ", base), want, func(p *api.Peer) { p.Base, p.Commit = base, base+1 })
		}
		for _, bad := range []api.Role{3, 4, 255} {
			add(fmt.Sprint("Role ", bad), api.ErrArg, func(p *api.Peer) { p.Role = bad })
		}
	}
	for id, want := range map[int]api.Errno{
		1: api.OK, 2: api.OK, 9: api.OK, 64: api.OK, 0: api.ErrArg, -1: api.ErrArg, 65: api.ErrArg, math.MaxInt: api.ErrArg, 1<<32 + 2: api.ErrArg,
	} {
		l = append(l, change{fmt.Sprint("Id ", id), follower, func(p *api.Peer) { p.Id = id }, want})
		l = append(l, change{fmt.Sprint("Vote ", id), follower, func(p *api.Peer) { p.Vote = id }, orNone(id, want)})
		l = append(l, change{fmt.Sprint("Lead ", id), follower, func(p *api.Peer) { p.Lead = id }, orNone(id, want)})
		l = append(l, change{fmt.Sprint("a leader's Vote ", id), leader, func(p *api.Peer) { p.Vote = id }, orNone(id, want)})
	}
	checkChanges(t, l)
}

// orNone is what is wanted where 0 is allowed, too.
func orNone(id int, want api.Errno) api.Errno {
	if id == 0 {
		return api.OK
	}
	return want
}

// P10.1: members are lists of 1 to MaxNodes numbers, rising, each once, wherever they stand; and Members is those as
// of the last entry.
func TestMayMembers(t *testing.T) {
	l := []change{
		{"Members as of an entry ahead", follower, func(p *api.Peer) { p.Members = []int{1, 2, 3} }, api.ErrArg},
		{"no Members", follower, func(p *api.Peer) { p.Members = nil }, api.ErrArg},
		{"Members in another order", follower, func(p *api.Peer) { p.Members = []int{1, 2, 5, 3} }, api.ErrArg},
		{"one of Members doubled", follower, func(p *api.Peer) { p.Members = []int{1, 2, 3, 5, 5} }, api.ErrArg},
		{"Members without a Seats entry", follower, func(p *api.Peer) { p.Log = p.Log[:1] }, api.ErrArg},
		{"BaseMembers without a Seats entry", follower, func(p *api.Peer) { p.Log, p.Members = p.Log[:1], []int{1, 2, 3} }, api.OK},
		{"BaseMembers of an empty log", follower, func(p *api.Peer) { p.Log, p.Members, p.Commit = nil, []int{1, 2, 3}, 4 }, api.OK},
		{"the first of two Seats entries", follower, func(p *api.Peer) {
			p.Log[2] = api.Entry{Term: 5, Kind: api.Seats, Members: []int{2, 9}}
		}, api.ErrArg},
		{"the last of two Seats entries", follower, func(p *api.Peer) {
			p.Log[2] = api.Entry{Term: 5, Kind: api.Seats, Members: []int{2, 9}}
			p.Members = []int{2, 9}
		}, api.OK},
		{"the last of two Seats entries above Commit", follower, func(p *api.Peer) {
			p.Log[2], p.Commit = api.Entry{Term: 5, Kind: api.Seats, Members: []int{2, 9}}, 4
			p.Members = []int{2, 9}
		}, api.OK},
	}
	for _, c := range []struct {
		members []int
		want    api.Errno
	}{
		{[]int{1}, api.OK}, {[]int{64}, api.OK}, {[]int{1, 64}, api.OK}, {[]int{3, 4, 7, 8}, api.OK},
		{nil, api.ErrArg}, {[]int{}, api.ErrArg}, {[]int{0}, api.ErrArg}, {[]int{65}, api.ErrArg}, {[]int{-1, 1}, api.ErrArg},
		{[]int{2, 1}, api.ErrArg}, {[]int{1, 1}, api.ErrArg}, {[]int{1, 2, 65}, api.ErrArg}, {[]int{1, 3, 2}, api.ErrArg},
	} {
		name := fmt.Sprint(c.members)
		l = append(l,
			change{"BaseMembers that a Seats entry hides, " + name, follower, func(p *api.Peer) { p.BaseMembers = c.members }, c.want},
			change{"BaseMembers, " + name, fresh, func(p *api.Peer) { p.BaseMembers, p.Members = c.members, slices.Clone(c.members) }, c.want},
			change{"a Seats entry's, " + name, follower, func(p *api.Peer) { p.Log[1].Members, p.Members = c.members, slices.Clone(c.members) }, c.want},
			change{"a Seats entry's that another one hides, " + name, follower, func(p *api.Peer) {
				p.Log[0] = api.Entry{Term: 2, Kind: api.Seats, Members: c.members}
			}, c.want})
	}
	checkChanges(t, l)
}

// P10.1: terms, indices and entries of a log.
func TestMayLog(t *testing.T) {
	checkChanges(t, []change{
		{"a term that falls", follower, func(p *api.Peer) { p.Log[2].Term = 2 }, api.ErrArg},
		{"a term that stays", follower, func(p *api.Peer) { p.Log[2].Term = 3 }, api.OK},
		{"a first term below BaseTerm", follower, func(p *api.Peer) { p.Log[0].Term = 1 }, api.ErrArg},
		{"a first term above BaseTerm", follower, func(p *api.Peer) { p.Log[0].Term = 3 }, api.OK},
		{"a last term of Term", follower, func(p *api.Peer) { p.Log[2].Term = 6 }, api.OK},
		{"a last term above Term", follower, func(p *api.Peer) { p.Log[2].Term = 7 }, api.ErrArg},
		{"a first term of a new log", fresh, func(p *api.Peer) { p.Term, p.Log = 1, []api.Entry{{Term: 1}} }, api.OK},
		{"a first term 0", fresh, func(p *api.Peer) { p.Term, p.Log = 1, []api.Entry{{}} }, api.ErrArg},
		{"a first term 0 of Term 0", fresh, func(p *api.Peer) { p.Log = []api.Entry{{}} }, api.ErrArg},
		{"a term 0 behind others", follower, func(p *api.Peer) { p.Log[1].Term = 0 }, api.ErrArg},
		{"BaseTerm of Term", follower, func(p *api.Peer) { p.Term, p.Log, p.Members, p.Commit = 2, nil, p.BaseMembers, 4 }, api.OK},
		{"BaseTerm above Term", follower, func(p *api.Peer) { p.Term, p.Log, p.Members, p.Commit = 1, nil, p.BaseMembers, 4 }, api.ErrArg},
		{"BaseTerm 0 with a Base", follower, func(p *api.Peer) { p.BaseTerm = 0 }, api.ErrArg},
		{"BaseTerm without a Base", fresh, func(p *api.Peer) { p.Term, p.BaseTerm = 1, 1 }, api.ErrArg},
		{"Base 0 with BaseTerm and a log", follower, func(p *api.Peer) { p.Base, p.Commit, p.Snap = 0, 1, "" }, api.ErrArg},
		{"Base and BaseTerm 1", fresh, func(p *api.Peer) { p.Term, p.Base, p.BaseTerm, p.Commit = 1, 1, 1, 1 }, api.OK},
		{"Base without BaseTerm", fresh, func(p *api.Peer) { p.Term, p.Base, p.Commit = 1, 1, 1 }, api.ErrArg},
		{"Snap with Base 0", fresh, func(p *api.Peer) { p.Snap = "s" }, api.ErrArg},
		{"no Snap with a Base", follower, func(p *api.Peer) { p.Snap = "" }, api.OK},
		{"Commit at Base", follower, func(p *api.Peer) { p.Commit = 4 }, api.OK},
		{"Commit below Base", follower, func(p *api.Peer) { p.Commit = 3 }, api.ErrArg},
		{"Commit 0 below Base", follower, func(p *api.Peer) { p.Commit = 0 }, api.ErrArg},
		{"Commit at the last index", follower, func(p *api.Peer) { p.Commit = 7 }, api.OK},
		{"Commit behind the last index", follower, func(p *api.Peer) { p.Commit = 8 }, api.ErrArg},
		{"Commit behind an empty log", fresh, func(p *api.Peer) { p.Commit = 1 }, api.ErrArg},
	})
}

// P10.1: Data is nothing but of Plain, Members are none but of Seats, and a kind is one of the three.
func TestMayEntry(t *testing.T) {
	seats := []int{1, 2, 3, 5}
	for _, c := range []struct {
		entry api.Entry
		want  api.Errno
	}{
		{api.Entry{Kind: api.Plain}, api.OK},
		{api.Entry{Kind: api.Plain, Data: "x"}, api.OK},
		{api.Entry{Kind: api.Plain, Members: []int{}}, api.OK},
		{api.Entry{Kind: api.Plain, Members: seats}, api.ErrArg},
		{api.Entry{Kind: api.Plain, Data: "x", Members: seats}, api.ErrArg},
		{api.Entry{Kind: api.Noop}, api.OK},
		{api.Entry{Kind: api.Noop, Data: "\x00"}, api.ErrArg},
		{api.Entry{Kind: api.Noop, Members: seats}, api.ErrArg},
		{api.Entry{Kind: api.Seats, Members: seats}, api.OK},
		{api.Entry{Kind: api.Seats, Data: "x", Members: seats}, api.ErrArg},
		{api.Entry{Kind: api.Seats}, api.ErrArg},
		{api.Entry{Kind: 3}, api.ErrArg},
		{api.Entry{Kind: 255}, api.ErrArg},
		{api.Entry{Kind: 3, Data: "x"}, api.ErrArg},
		{api.Entry{Kind: 3, Members: seats}, api.ErrArg},
	} {
		c.entry.Term = 3
		name := fmt.Sprintf("%+v", c.entry)
		// the last entry says the same members, so that Members are as said whatever stands ahead of it
		to := func(p *api.Peer) { p.Log[1], p.Log[2] = c.entry, api.Entry{Term: 5, Kind: api.Seats, Members: seats} }
		checkChanges(t, []change{{name, follower, to, c.want}})
		m := lay()
		m.Entries[0] = c.entry
		if got := vote.MayMsg(m); got != c.want || messageMay(m) != (c.want == api.OK) {
			t.Errorf("a Lay with %s: %v", name, got)
		}
	}
}

// P10.1: Votes are members' numbers, rising, each once, and none but of a Candidate, which is among them, is one of
// Members, and voted for itself; its Lead is 0.
func TestMayCandidate(t *testing.T) {
	votes := func(l ...int) func(p *api.Peer) { return func(p *api.Peer) { p.Votes = l } }
	checkChanges(t, []change{
		{"a follower's Votes", follower, votes(2), api.ErrArg},
		{"a leader's Votes", leader, votes(2), api.ErrArg},
		{"its own vote alone", candidate, votes(2), api.OK},
		{"all Votes", candidate, votes(1, 2, 3, 5), api.OK},
		{"no Votes", candidate, votes(), api.ErrArg},
		{"Votes without its own", candidate, votes(1, 3), api.ErrArg},
		{"Votes that fall", candidate, votes(5, 2), api.ErrArg},
		{"Votes doubled", candidate, votes(2, 2), api.ErrArg},
		{"another one's Votes doubled", candidate, votes(2, 5, 5), api.ErrArg},
		{"Votes of one who is no member", candidate, votes(2, 4), api.ErrArg},
		{"Votes of one who was a member", candidate, func(p *api.Peer) { p.BaseMembers, p.Votes = []int{2, 4}, []int{2, 4} }, api.ErrArg},
		{"a Vote 0", candidate, votes(0, 2), api.ErrArg},
		{"a Vote -1", candidate, votes(-1, 2), api.ErrArg},
		{"a Vote behind MaxNodes", candidate, votes(2, 65), api.ErrArg},
		{"no Vote", candidate, func(p *api.Peer) { p.Vote = 0 }, api.ErrArg},
		{"a Vote for another one", candidate, func(p *api.Peer) { p.Vote = 5 }, api.ErrArg},
		{"a Lead", candidate, func(p *api.Peer) { p.Lead = 1 }, api.ErrArg},
		{"its own Lead", candidate, func(p *api.Peer) { p.Lead = 2 }, api.ErrArg},
		{"none of Members", candidate, func(p *api.Peer) { p.Id, p.Vote, p.Votes = 4, 4, []int{4, 5} }, api.ErrArg},
		{"none of Members, Votes of them", candidate, func(p *api.Peer) { p.Id, p.Vote, p.Votes = 4, 4, []int{2, 5} }, api.ErrArg},
		{"one of Members by its last entry alone", candidate, func(p *api.Peer) { p.Id, p.Vote, p.Votes = 5, 5, []int{5} }, api.OK},
		{"one of BaseMembers alone", candidate, func(p *api.Peer) {
			p.Log[1].Members, p.Members, p.Votes = []int{1, 3}, []int{1, 3}, []int{2}
		}, api.ErrArg},
		{"a Candidate of Term 0", fresh, func(p *api.Peer) { p.Role, p.Vote, p.Votes = api.Candidate, 2, []int{2} }, api.OK},
	})
}

// P10.1: Follows and Reads are a Leader's alone, its Lead is its Id, and its term is above 0; there a follower's Lead
// is any.
func TestMayLeader(t *testing.T) {
	follows, reads := leader().Follows, leader().Reads
	led := func(p *api.Peer) {
		p.Role, p.Term, p.Lead, p.Follows = api.Leader, 1, 2, []api.Follow{{Id: 1, Next: 1}}
	}
	checkChanges(t, []change{
		{"a follower's Follows", follower, func(p *api.Peer) { p.Follows = follows }, api.ErrArg},
		{"a follower's Reads", follower, func(p *api.Peer) { p.Reads = reads }, api.ErrArg},
		{"a candidate's Follows", candidate, func(p *api.Peer) { p.Follows = follows }, api.ErrArg},
		{"a candidate's Reads", candidate, func(p *api.Peer) { p.Reads = reads }, api.ErrArg},
		{"a follower without a Lead", follower, func(p *api.Peer) { p.Lead = 0 }, api.OK},
		{"a leader without a Lead", leader, func(p *api.Peer) { p.Lead = 0 }, api.ErrArg},
		{"a leader of another Lead", leader, func(p *api.Peer) { p.Lead = 3 }, api.ErrArg},
		{"a leader without a Vote", leader, func(p *api.Peer) { p.Vote = 0 }, api.OK},
		{"a leader of Term 1 without a log", fresh, led, api.OK},
		{"a leader of Term 0", fresh, func(p *api.Peer) { led(p); p.Term = 0 }, api.ErrArg},
		{"a leader whose last entry is of its Term", leader, func(p *api.Peer) { p.Log[2].Term = 6 }, api.OK},
		{"a leader whose last entry is above its Term", leader, func(p *api.Peer) { p.Log[2].Term = 7 }, api.ErrArg},
		{"a leader without Reads", leader, func(p *api.Peer) { p.Reads = nil }, api.OK},
		{"a leader without Follows", leader, func(p *api.Peer) { p.Follows = nil }, api.ErrArg},
		{"a leader alone", leader, func(p *api.Peer) { p.Log[1].Members, p.Members, p.Follows = []int{2}, []int{2}, nil }, api.OK},
		{"a leader alone with Follows of itself", leader, func(p *api.Peer) {
			p.Log[1].Members, p.Members, p.Follows = []int{2}, []int{2}, []api.Follow{{Id: 2, Next: 1}}
		}, api.ErrArg},
		{"a leader that is none of Members", leader, func(p *api.Peer) {
			p.Log[1].Members, p.Members = []int{1, 3, 5}, []int{1, 3, 5}
		}, api.OK},
	})
}

// P10.1: Follows are all of Members but itself, rising, with Next from 1 to the last index and 1, Match below Next.
func TestMayFollows(t *testing.T) {
	change3 := func(f api.Follow) func(p *api.Peer) { return func(p *api.Peer) { p.Follows[1] = f } }
	checkChanges(t, []change{
		{"one is wanting", leader, func(p *api.Peer) { p.Follows = p.Follows[:2] }, api.ErrArg},
		{"the first is wanting", leader, func(p *api.Peer) { p.Follows = p.Follows[1:] }, api.ErrArg},
		{"one more", leader, func(p *api.Peer) { p.Follows = append(p.Follows, api.Follow{Id: 6, Next: 1}) }, api.ErrArg},
		{"one twice", leader, func(p *api.Peer) { p.Follows = append(p.Follows, p.Follows[2]) }, api.ErrArg},
		{"itself among them", leader, func(p *api.Peer) { p.Follows = slices.Insert(p.Follows, 1, api.Follow{Id: 2, Next: 1}) }, api.ErrArg},
		{"itself in the place of another one", leader, change3(api.Follow{Id: 2, Next: 1}), api.ErrArg},
		{"turned round", leader, func(p *api.Peer) { p.Follows[0], p.Follows[1] = p.Follows[1], p.Follows[0] }, api.ErrArg},
		{"one who is no member", leader, change3(api.Follow{Id: 4, Next: 1}), api.ErrArg},
		{"Next 0", leader, change3(api.Follow{Id: 3}), api.ErrArg},
		{"Next 1", leader, change3(api.Follow{Id: 3, Next: 1}), api.OK},
		{"Next at the last index", leader, change3(api.Follow{Id: 3, Next: 7}), api.OK},
		{"Next at the last index and 1", leader, change3(api.Follow{Id: 3, Next: 8}), api.OK},
		{"Next behind it", leader, change3(api.Follow{Id: 3, Next: 9}), api.ErrArg},
		{"Next far behind it", leader, change3(api.Follow{Id: 3, Next: math.MaxUint64}), api.ErrArg},
		{"Match below Next", leader, change3(api.Follow{Id: 3, Next: 8, Match: 7}), api.OK},
		{"Match at Next", leader, change3(api.Follow{Id: 3, Next: 7, Match: 7}), api.ErrArg},
		{"Match at Next 1", leader, change3(api.Follow{Id: 3, Next: 1, Match: 1}), api.ErrArg},
		{"Match behind Next", leader, change3(api.Follow{Id: 3, Next: 3, Match: 5}), api.ErrArg},
	})
}

// P10.1: of Reads the Rounds rise, none above Round, Index is at most Commit, Acks are numbers, rising, each once.
func TestMayReads(t *testing.T) {
	acks := func(l ...int) func(p *api.Peer) { return func(p *api.Peer) { p.Reads[0].Acks = l } }
	checkChanges(t, []change{
		{"Rounds that stay", leader, func(p *api.Peer) { p.Reads[0].Round = 3 }, api.ErrArg},
		{"Rounds that fall", leader, func(p *api.Peer) { p.Reads[0].Round, p.Reads[1].Round = 3, 2 }, api.ErrArg},
		{"Rounds one behind the other", leader, func(p *api.Peer) { p.Reads[0].Round = 2 }, api.OK},
		{"Round 0", leader, func(p *api.Peer) { p.Reads[0].Round = 0 }, api.OK},
		{"a Round above Round", leader, func(p *api.Peer) { p.Reads[1].Round = 4 }, api.ErrArg},
		{"a Round below Round", leader, func(p *api.Peer) { p.Round = 4 }, api.OK},
		{"Round below those of Reads", leader, func(p *api.Peer) { p.Round = 2 }, api.ErrArg},
		{"an Index at Commit", leader, func(p *api.Peer) { p.Reads[0].Index = 5 }, api.OK},
		{"an Index 0", leader, func(p *api.Peer) { p.Reads[0].Index = 0 }, api.OK},
		{"an Index above Commit", leader, func(p *api.Peer) { p.Reads[0].Index = 6 }, api.ErrArg},
		{"a later Index above Commit", leader, func(p *api.Peer) { p.Commit = 4 }, api.ErrArg},
		{"Acks that fall", leader, acks(2, 1), api.ErrArg},
		{"Acks doubled", leader, acks(2, 2), api.ErrArg},
		{"no Acks", leader, acks(), api.OK},
		{"Acks of ones who are no members", leader, acks(4, 64), api.OK},
		{"an Ack 0", leader, acks(0, 2), api.ErrArg},
		{"an Ack behind MaxNodes", leader, acks(2, 65), api.ErrArg},
	})
}

// P10.1: May is what the words say of members of which one or two things were changed.
func TestMayDrawn(t *testing.T) {
	r := draws()
	yes, no := 0, 0
	for range 60000 {
		p := drawnPeer(r)
		for range r.Intn(3) {
			spoil(r, &p)
		}
		want := api.ErrArg
		if memberMay(p) {
			want = api.OK
			yes++
		} else {
			no++
		}
		if got := vote.May(p); got != want {
			t.Fatalf("May(%+v): %v", p, got)
		}
	}
	if yes < 10000 || no < 10000 {
		t.Errorf("what is drawn tells little: %d may be, %d not", yes, no)
	}
}

// P0.1: nothing of lists is as none, in each list of a member and of a message.
func TestMayNothing(t *testing.T) {
	p := fresh()
	p.Log, p.Votes, p.Follows, p.Reads = []api.Entry{}, []int{}, []api.Follow{}, []api.Read{}
	q := follower()
	q.Log[0].Members, q.Log[2].Members = []int{}, []int{}
	for _, p := range []api.Peer{p, q} {
		if e := vote.May(p); e != api.OK {
			t.Errorf("May(%+v): %v", p, e)
		}
	}
	for name, m := range messages() {
		if len(m.Entries) == 0 {
			m.Entries = []api.Entry{}
		}
		if len(m.Members) == 0 {
			m.Members = []int{}
		}
		if e := vote.MayMsg(m); e != api.OK {
			t.Errorf("MayMsg of %s: %v", name, e)
		}
	}
}
