package seats_test

import (
	"fmt"
	"testing"

	"tessera/api"
	"tessera/logs"
	"tessera/seats"
	"tessera/vote"
)

// quits holds a Quit to what is wanted, and to what follows.
func quits(t *testing.T, name string, p, want api.Peer, stood bool) {
	t.Helper()
	got, was, e := seats.Quit(p)
	if e != api.OK || was != stood || !equal(got, want) {
		t.Errorf("%s: %+v, %v, %v\n wanted %+v, %v", name, got, was, e, want, stood)
	}
	follows(t, name, p, got, nil)
}

// down is a leader that has stood down to its own term: its vote stays.
func down(p api.Peer) api.Peer {
	return with(p, func(p *api.Peer) { p.Role, p.Lead, p.Follows, p.Reads = api.Follower, 0, nil, nil })
}

// reading is a change by which a leader has readings.
func reading(p *api.Peer) {
	p.Round, p.Idle = 4, 2
	p.Reads = []api.Read{{Round: 2, Index: 1, Acks: []int{1, 2}}, {Round: 4, Index: 3}}
}

// P14.2: a leader that is none of its members, with no change under way, stands down to its term: all but its log goes.
func TestQuit(t *testing.T) {
	for name, p := range map[string]api.Peer{
		"out": out(), "out, with readings": with(out(), reading),
		"out, unsure": with(out(), func(p *api.Peer) { p.Commit = 0 }), "of one other": leading([]int{64}, 2),
		"out, of elder entries": with(out(), func(p *api.Peer) { p.Term = 9 }),
		"its change committed": with(changing(leading([]int{1, 2, 3}, 4, 4), 1, 3), func(p *api.Peer) {
			p.Commit, p.Follows[0], p.Follows[1] = 5, api.Follow{Id: 1, Next: 6, Match: 5}, api.Follow{Id: 3, Next: 6, Match: 5}
		}),
	} {
		if vote.May(p) != api.OK {
			t.Fatalf("%s may not be", name)
		}
		quits(t, name, p, down(p), true)
		quits(t, name+", again", down(p), down(p), false)
	}
	p := with(out(), reading)
	want := api.Peer{
		Id: 2, Members: []int{1, 3, 5}, BaseMembers: []int{1, 3, 5}, Term: 2, Vote: 2, Log: p.Log, Commit: 3, Idle: 2, Wait: 10, Round: 4,
	}
	quits(t, "field by field", p, want, true)
}

// P14.2: all others are as they were: who does not lead, who is a member, who changes its members.
func TestQuitStays(t *testing.T) {
	for name, p := range others() {
		quits(t, name, p, p, false)
	}
	for name, p := range map[string]api.Peer{
		"a leader": leader(), "one alone": one(), "a leader that is unsure": unsure(),
		"one that changes":                       changing(leader(), 1, 2, 3),
		"one that goes":                          changing(leader(), 1, 3, 5),
		"one that goes, with what others have":   changing(leading([]int{1, 2, 3}, 4, 4), 1, 3),
		"one that went, and changes":             changing(out(), 1, 3),
		"one that went, and comes back":          changing(out(), 1, 2, 3, 5),
		"one that went, of the same, once more":  changing(out(), 1, 3, 5),
		"one that goes, with something behind":   with(changing(leader(), 1, 3, 5), func(p *api.Peer) { p.Log = append(p.Log, api.Entry{Term: 6}) }),
		"one that went, but an elder leader too": with(out(), func(p *api.Peer) { p.Log[3], p.Term = api.Entry{Term: 2, Kind: api.Seats, Members: p.Members}, 3 }),
	} {
		if vote.May(p) != api.OK {
			t.Fatalf("%s may not be: %+v", name, p)
		}
		quits(t, name, p, p, false)
	}
}

// P14.2: ErrArg of what may not be, with nothing beside it.
func TestQuitWrong(t *testing.T) {
	for _, p := range spoiled() {
		if got, was, e := seats.Quit(p); e != api.ErrArg || was || !equal(got, api.Peer{}) {
			t.Errorf("%+v: %+v, %v, %v", p, got, was, e)
		}
	}
}

// P14.2: a leader that removed itself goes on till the others have that, then it quits; it campaigns no more, and votes
// as any other one.
func TestQuitBehindRemove(t *testing.T) {
	p := sureOne(t)
	p, index, e := seats.Remove(p, 1)
	if e != api.OK || index != 2 {
		t.Fatalf("Remove: %d, %v", index, e)
	}
	quits(t, "under way", p, p, false)
	p, index, e = logs.Propose(p, "x")
	if e != api.OK || index != 3 {
		t.Fatalf("Propose: %d, %v", index, e)
	}
	p = heard(t, p, 2, 3, 0)
	quits(t, "one of the other two has it", p, p, false)
	if p.Commit != 1 {
		t.Fatalf("it counts itself: %+v", p)
	}
	p = heard(t, p, 3, 2, 0)
	if p.Commit != 2 {
		t.Fatalf("both others have it: %+v", p)
	}
	quits(t, "both others have it", p, down(p), true)
	p, _, _ = seats.Quit(p)
	for i := range 50 {
		q, sent, e := logs.Tick(p, i)
		if e != api.OK || len(sent) != 0 || q.Role != api.Follower || q.Term != 1 {
			t.Fatalf("it campaigns: %+v, %+v, %v", q, sent, e)
		}
		p = q
	}
	ask := api.Msg{Kind: api.Ask, From: 2, To: 1, Term: 2, Index: 3, LogTerm: 1}
	p, sent, e := vote.Take(p, ask)
	if e != api.OK || len(sent) != 1 || !sent[0].Ok || p.Vote != 2 {
		t.Errorf("an Ask: %+v, %+v, %v", p, sent, e)
	}
}

// P0.1: at the end of what a member may have Quit is what it is elsewhere.
func TestQuitHighest(t *testing.T) {
	p := with(out(), func(p *api.Peer) {
		p.Term, p.Round, p.Base, p.BaseTerm, p.Commit = top, top, top, 1, top+3
		for i := range p.Follows {
			p.Follows[i].Next += top
		}
	})
	if e := vote.May(p); e != api.OK {
		t.Fatal(e)
	}
	quits(t, "the highest", p, down(p), true)
	for commit := top; commit <= top+4; commit++ {
		p := with(p, func(p *api.Peer) {
			p.Commit, p.Log[2] = commit, api.Entry{Term: 2, Kind: api.Seats, Members: p.Members}
		})
		if commit < top+3 {
			quits(t, fmt.Sprint("Commit ", commit), p, p, false)
		} else {
			quits(t, fmt.Sprint("Commit ", commit), p, down(p), true)
		}
	}
}
