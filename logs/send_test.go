package logs_test

import (
	"fmt"
	"math"
	"reflect"
	"slices"
	"testing"

	"tessera/api"
	"tessera/logs"
	"tessera/vote"
)

// install is the leader's snapshot, to a member.
func install(to int) api.Msg {
	return api.Msg{
		Kind: api.Install, From: 2, To: to, Term: 6, Index: 4, LogTerm: 2, Members: []int{1, 2, 3}, Snap: "snap", Round: 3,
	}
}

// layFrom is the leader's Lay from an index on, of the last so many of its entries, to a member.
func layFrom(to int, index, term uint64, count int) api.Msg {
	log := leader().Log
	return api.Msg{
		Kind: api.Lay, From: 2, To: to, Term: 6, Index: index, LogTerm: term, Commit: 5, Round: 3, Entries: log[len(log)-count:],
	}
}

// P11.3: what a leader sends by each Next: an Install where the entry ahead of it is below Base, else a Lay.
func TestSend(t *testing.T) {
	want := map[uint64]api.Msg{
		1: install(3), 2: install(3), 3: install(3), 4: install(3),
		5: layFrom(3, 4, 2, 4), 6: layFrom(3, 5, 2, 3), 7: layFrom(3, 6, 3, 2), 8: layFrom(3, 7, 5, 1), 9: layFrom(3, 8, 6, 0),
	}
	for next, m := range want {
		p := with(leader(), func(p *api.Peer) { p.Follows[1].Next = next })
		got, e := logs.Send(p, 3)
		if e != api.OK || !equalMsg(got, m) || vote.MayMsg(got) != api.OK {
			t.Errorf("Next %d: %+v, %v\n wanted %+v", next, got, e, m)
		}
	}
	for to, m := range map[int]api.Msg{1: layFrom(1, 8, 6, 0), 3: install(3), 5: layFrom(5, 5, 2, 3)} {
		if got, e := logs.Send(leader(), to); e != api.OK || !equalMsg(got, m) {
			t.Errorf("to %d: %+v, %v\n wanted %+v", to, got, e, m)
		}
	}
}

// P11.3: without a Base a Next of 1 is a Lay from the beginning; a leader that is none of its Members sends, too.
func TestSendFirst(t *testing.T) {
	p := leading([]int{1, 3, 4}, 0, 8, 4)
	for _, c := range []struct {
		to          int
		index, term uint64
		count       int
	}{{1, 0, 0, 8}, {3, 8, 6, 0}, {4, 4, 5, 4}} {
		m, e := logs.Send(p, c.to)
		want := api.Msg{Kind: api.Lay, From: 2, To: c.to, Term: 6, Index: c.index, LogTerm: c.term, Entries: p.Log[8-c.count:]}
		if e != api.OK || !equalMsg(m, want) || vote.MayMsg(m) != api.OK {
			t.Errorf("to %d: %+v, %v", c.to, m, e)
		}
	}
}

// many is a leader of 1 and 2 with so many entries, each with data of its own.
func many(count int) api.Peer {
	p := api.Peer{Id: 2, Members: []int{1, 2}, BaseMembers: []int{1, 2}, Term: 1, Vote: 2, Role: api.Leader, Lead: 2, Wait: 10}
	for i := range count {
		p.Log = append(p.Log, api.Entry{Term: 1, Data: fmt.Sprint(i + 1)})
	}
	p.Follows = []api.Follow{{Id: 1, Next: 1}}
	return p
}

// P11.3: at most MaxLay entries go, the first ones.
func TestSendMany(t *testing.T) {
	for count := api.MaxLay - 1; count <= 2*api.MaxLay+1; count++ {
		for next := 1; next <= count+1; next++ {
			p := with(many(count), func(p *api.Peer) { p.Follows[0].Next = uint64(next) })
			m, e := logs.Send(p, 1)
			end := min(count, next-1+16)
			if e != api.OK || m.Index != uint64(next-1) || !equalLog(m.Entries, p.Log[next-1:end]) || vote.MayMsg(m) != api.OK {
				t.Errorf("%d entries from %d on: %+v, %v", count, next, m, e)
			}
		}
	}
	p := with(many(20), func(p *api.Peer) { p.Base, p.BaseTerm, p.Commit, p.Follows[0].Next = 100, 1, 100, 101 })
	if m, e := logs.Send(p, 1); e != api.OK || m.Index != 100 || !equalLog(m.Entries, p.Log[:16]) {
		t.Errorf("behind a Base: %+v, %v", m, e)
	}
}

// P11.3: ErrArg, ErrLead and ErrNone, in that order.
func TestSendWrong(t *testing.T) {
	check := func(name string, p api.Peer, to int, want api.Errno) {
		t.Helper()
		if m, e := logs.Send(p, to); e != want || !reflect.DeepEqual(m, api.Msg{}) {
			t.Errorf("%s to %d: %+v, %v, wanted %v", name, to, m, e, want)
		}
	}
	for _, to := range []int{2, 4, 0, -1, 64, 65, math.MaxInt, math.MinInt} { // itself, one that is no member, no member's number
		check("a leader", leader(), to, api.ErrNone)
		check("one alone", one(), to, api.ErrNone)
		check("a follower", follower(), to, api.ErrLead)
	}
	check("one that is none of its Members", leading([]int{1, 3}, 0, 0), 2, api.ErrNone)
	for _, to := range []int{1, 2, 3, 4, 5} {
		check("a follower", follower(), to, api.ErrLead)
		check("a candidate", candidate(), to, api.ErrLead)
		check("one that is new", fresh(), to, api.ErrLead)
		for _, p := range spoiled() {
			check(fmt.Sprintf("%+v", p), p, to, api.ErrArg)
		}
	}
}

// P11.3: a leader's tick is one Idle more till Beat; then it sends to each of its Follows, rising.
func TestTickLeader(t *testing.T) {
	beat := []api.Msg{layFrom(1, 8, 6, 0), install(3), layFrom(5, 5, 2, 3)}
	for idle, want := range map[int]struct {
		idle int
		sent []api.Msg
	}{
		0: {1, nil}, api.Beat - 2: {api.Beat - 1, nil}, api.Beat - 1: {0, beat}, api.Beat: {0, beat}, api.Beat + 1: {0, beat},
		11: {0, beat}, 12: {0, beat}, topTicks - 1: {0, beat}, topTicks: {0, beat},
	} {
		p := with(leader(), func(p *api.Peer) { p.Idle = idle })
		for _, draw := range []int{0, 7, math.MaxInt} {
			got, sent, e := logs.Tick(p, draw)
			stepped(t, fmt.Sprint("Idle ", idle), p, got, sent, e, with(p, func(p *api.Peer) { p.Idle = want.idle }), want.sent)
		}
	}
	p := leader()
	for i := range 12 {
		got, sent, e := logs.Tick(p, 0)
		if e != api.OK || len(sent) != []int{0, 0, 3}[i%3] || got.Role != api.Leader {
			t.Errorf("tick %d: %+v, %+v, %v", i+1, got, sent, e)
		}
		p = got
	}
}

// P11.3: a leader advances by its tick, ahead of what it sends.
func TestTickAdvances(t *testing.T) {
	for idle := range api.Beat {
		p := with(leader(), func(p *api.Peer) {
			p.Idle, p.Follows[2] = idle, api.Follow{Id: 5, Next: 9, Match: 8}
		})
		got, sent, e := logs.Tick(p, 0)
		want := with(p, func(p *api.Peer) { p.Idle, p.Commit = (idle+1)%api.Beat, 8 })
		var wantSent []api.Msg
		if idle == api.Beat-1 {
			behind := layFrom(1, 8, 6, 0)
			behind.Commit = 8
			last := behind
			last.To = 5
			wantSent = []api.Msg{behind, install(3), last}
		}
		stepped(t, fmt.Sprint("Idle ", idle), p, got, sent, e, want, wantSent)
	}
}

// P11.3: a leader of a group of one sends nothing, and advances; one that is not yet leads by its tick, and advances.
func TestTickAlone(t *testing.T) {
	p := with(proposed(one(), "x"), func(p *api.Peer) { p.Idle = api.Beat - 1 })
	got, sent, e := logs.Tick(p, 0)
	stepped(t, "at Beat", p, got, sent, e, with(p, func(p *api.Peer) { p.Idle, p.Commit = 0, 3 }), nil)
	elder := with(one(), func(p *api.Peer) { p.Idle = 0 })
	got, sent, e = logs.Tick(elder, 0)
	stepped(t, "with elder entries alone", elder, got, sent, e, with(elder, func(p *api.Peer) { p.Idle = 1 }), nil)
	p, e = vote.New(2, 1, 2)
	if e != api.OK {
		t.Fatal(e)
	}
	got, sent, e = logs.Tick(p, 4)
	stepped(t, "one that is new", p, got, sent, e, api.Peer{
		Id: 2, Members: []int{2}, BaseMembers: []int{2}, Term: 1, Vote: 2, Role: api.Leader, Lead: 2,
		Log: []api.Entry{{Term: 1, Kind: api.Noop}}, Commit: 1, Idle: api.Beat - 1, Wait: 14,
	}, nil)
	p = with(one(), func(p *api.Peer) { p.Role, p.Lead, p.Idle = api.Follower, 0, 9 })
	got, sent, e = logs.Tick(p, 0)
	stepped(t, "with elder entries, and wins", p, got, sent, e, with(p, func(p *api.Peer) {
		p.Role, p.Lead, p.Term, p.Idle, p.Commit = api.Leader, 2, 4, 2, 3
		p.Log = append(p.Log, api.Entry{Term: 4, Kind: api.Noop})
	}), nil)
}

// P11.3: who does not lead does as by layer 10's Tick, at each Idle about its Wait.
func TestTickOthers(t *testing.T) {
	for name, from := range map[string]api.Peer{
		"a follower": follower(), "a candidate": candidate(), "one that is new": fresh(),
		"none of its Members": with(follower(), func(p *api.Peer) { p.Id = 9 }),
		"of the last term":    with(follower(), func(p *api.Peer) { p.Term = top }),
	} {
		for _, idle := range []int{0, 1, 2, 3, 8, 9, 10, 11, 12, 13, topTicks - 1, topTicks} {
			for _, draw := range []int{0, 13} {
				p := with(from, func(p *api.Peer) { p.Idle = idle })
				want, wantSent, _ := vote.Tick(p, draw)
				got, sent, e := logs.Tick(p, draw)
				stepped(t, fmt.Sprint(name, ", Idle ", idle), p, got, sent, e, want, wantSent)
			}
		}
	}
	p := with(follower(), func(p *api.Peer) { p.Idle = 11 })
	if got, sent, e := logs.Tick(p, 0); e != api.OK || got.Role != api.Candidate || got.Term != 7 || len(sent) != 3 || got.Commit != 5 {
		t.Errorf("a campaign: %+v, %+v, %v", got, sent, e)
	}
}

// P11.3: ErrArg of a draw below 0, of each role, and of a member that may not be.
func TestTickWrong(t *testing.T) {
	for name, p := range map[string]api.Peer{
		"a follower": follower(), "a candidate": candidate(), "a leader": leader(), "one alone": one(), "one that is new": fresh(),
	} {
		for _, draw := range []int{-1, -3, math.MinInt} {
			got, sent, e := logs.Tick(p, draw)
			refused(t, fmt.Sprint(name, ", the draw ", draw), got, sent, e, api.ErrArg)
		}
	}
	for _, p := range spoiled() {
		for _, draw := range []int{0, 3, -1} {
			got, sent, e := logs.Tick(p, draw)
			refused(t, fmt.Sprintf("Tick of %+v", p), got, sent, e, api.ErrArg)
		}
	}
}

// P11.3: a leader sends to all of the greatest group, to itself never.
func TestTickAll(t *testing.T) {
	var members []int
	for id := range api.MaxNodes {
		members = append(members, id+1)
	}
	p := with(leading(members, make([]uint64, api.MaxNodes)...), func(p *api.Peer) { p.Idle = 2 })
	_, sent, e := logs.Tick(p, 0)
	var to []int
	for _, m := range sent {
		if to = append(to, m.To); m.Kind != api.Lay || len(m.Entries) != 8 || m.From != 2 {
			t.Errorf("to %d: %+v", m.To, m)
		}
	}
	if e != api.OK || !slices.Equal(to, slices.DeleteFunc(members, func(id int) bool { return id == 2 })) {
		t.Errorf("to whom: %v, %v", to, e)
	}
}
