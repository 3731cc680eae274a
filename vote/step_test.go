package vote_test

import (
	"fmt"
	"math"
	"slices"
	"testing"

	"tessera/api"
	"tessera/vote"
)

// stepped holds a step's answer to what the words make of the member, and to P10.7: what is answered may be.
func stepped(t *testing.T, name string, got api.Peer, sent []api.Msg, e api.Errno, want api.Peer, wantSent []api.Msg) {
	t.Helper()
	if e != api.OK || !equal(got, want) || !equalMsgs(sent, wantSent) {
		t.Errorf("%s: %+v, %+v, %v\n wanted %+v, %+v", name, got, sent, e, want, wantSent)
	}
	if e := vote.May(got); e != api.OK {
		t.Errorf("%s: what is answered may not be: %+v", name, got)
	}
	for _, m := range sent {
		if e := vote.MayMsg(m); e != api.OK {
			t.Errorf("%s: what is sent may not be: %+v", name, m)
		}
	}
}

// refused holds a step's answer to an ErrArg, with nothing beside it.
func refused(t *testing.T, name string, got api.Peer, sent []api.Msg, e api.Errno) {
	t.Helper()
	if e != api.ErrArg || !zeroPeer(got) || len(sent) != 0 {
		t.Errorf("%s: %+v, %+v, %v", name, got, sent, e)
	}
}

// with is a member of which something is changed.
func with(p api.Peer, to func(p *api.Peer)) api.Peer {
	to(&p)
	return p
}

// asks is what 2 sends when it campaigns in a term, with the last entry 7 of the term 5.
func asks(term uint64, to ...int) []api.Msg {
	var l []api.Msg
	for _, id := range to {
		l = append(l, api.Msg{Kind: api.Ask, From: 2, To: id, Term: term, Index: 7, LogTerm: 5})
	}
	return l
}

// campaigned is a member behind the beginning of its campaign.
func campaigned(from api.Peer, wait int) api.Peer {
	return with(from, func(p *api.Peer) {
		p.Term, p.Role, p.Vote, p.Votes, p.Lead, p.Idle, p.Wait = p.Term+1, api.Candidate, 2, []int{2}, 0, 0, wait
	})
}

// P10.3: a member's Idle is one more; from Wait on it campaigns; a Leader stays as it is.
func TestTick(t *testing.T) {
	idle := func(idle int) func(p *api.Peer) { return func(p *api.Peer) { p.Idle = idle } }
	for name, c := range map[string]struct {
		from, want api.Peer
		sent       []api.Msg
	}{
		"a leader":                        {leader(), leader(), nil},
		"a leader, Idle at its bound":     {with(leader(), idle(topTicks)), with(leader(), idle(topTicks)), nil},
		"a leader, Idle one below Wait":   {with(leader(), idle(11)), with(leader(), idle(11)), nil},
		"a follower":                      {follower(), with(follower(), idle(3)), nil},
		"a follower of Idle 0":            {with(follower(), idle(0)), with(follower(), idle(1)), nil},
		"a follower, two below Wait":      {with(follower(), idle(10)), with(follower(), idle(11)), nil},
		"a follower, one below Wait":      {with(follower(), idle(11)), campaigned(follower(), 13), asks(7, 1, 3, 5)},
		"a follower at Wait":              {with(follower(), idle(12)), campaigned(follower(), 13), asks(7, 1, 3, 5)},
		"a follower far above Wait":       {with(follower(), idle(topTicks)), campaigned(follower(), 13), asks(7, 1, 3, 5)},
		"a candidate":                     {candidate(), with(candidate(), idle(3)), nil},
		"a candidate, two below Wait":     {with(candidate(), idle(10)), with(candidate(), idle(11)), nil},
		"a candidate, one below Wait":     {with(candidate(), idle(11)), campaigned(candidate(), 13), asks(7, 1, 3, 5)},
		"a candidate, Idle at its bound":  {with(candidate(), idle(topTicks)), campaigned(candidate(), 13), asks(7, 1, 3, 5)},
		"Wait and Idle at their bound":    {with(follower(), func(p *api.Peer) { p.Idle, p.Wait = topTicks, topTicks }), campaigned(follower(), 13), asks(7, 1, 3, 5)},
		"Wait at its bound, one below it": {with(follower(), func(p *api.Peer) { p.Idle, p.Wait = topTicks-1, topTicks }), campaigned(follower(), 13), asks(7, 1, 3, 5)},
	} {
		got, sent, e := vote.Tick(copied(c.from), 13)
		stepped(t, name, got, sent, e, c.want, c.sent)
	}
}

// P10.3: the new Wait is MinWait and the draw modulo Spread, and is no other than by a campaign.
func TestTickDraw(t *testing.T) {
	p := with(follower(), func(p *api.Peer) { p.Idle = 11 })
	for draw, wait := range map[int]int{0: 10, 1: 11, 9: 19, 10: 10, 13: 13, 19: 19, 20: 10, 1000007: 17, math.MaxInt: 17} {
		got, sent, e := vote.Tick(copied(p), draw)
		stepped(t, fmt.Sprint("the draw ", draw), got, sent, e, campaigned(follower(), wait), asks(7, 1, 3, 5))
		got, sent, e = vote.Tick(follower(), draw)
		stepped(t, fmt.Sprint("no campaign, the draw ", draw), got, sent, e, with(follower(), func(p *api.Peer) { p.Idle = 3 }), nil)
	}
}

// P10.3: who is none of its Members never campaigns, and its Idle is never above its bound; nor does one of the
// greatest Term.
func TestTickStays(t *testing.T) {
	outside := func(p *api.Peer) { p.Id, p.Idle = 4, 11 }
	before := func(p *api.Peer) { p.Log[1].Members, p.Members, p.Idle = []int{1, 3}, []int{1, 3}, 11 }
	for name, from := range map[string]api.Peer{
		"none of its members": with(follower(), outside),
		"a member before":     with(follower(), before),
		"a follower of 2^62":  with(follower(), func(p *api.Peer) { p.Term, p.Idle = top, 11 }),
		"a candidate of 2^62": with(candidate(), func(p *api.Peer) { p.Term, p.Idle = top, 11 }),
	} {
		p := copied(from)
		for i := range 5 {
			got, sent, e := vote.Tick(copied(p), 3)
			p.Idle++
			stepped(t, fmt.Sprint(name, ", tick ", i+1), got, sent, e, p, nil)
			p = got
		}
		p.Idle = topTicks - 1
		for range 3 {
			got, sent, e := vote.Tick(copied(p), 3)
			p.Idle = topTicks
			stepped(t, name+", Idle at its bound", got, sent, e, p, nil)
		}
	}
	p := with(follower(), func(p *api.Peer) { p.Term, p.Idle = top-1, 11 })
	got, sent, e := vote.Tick(copied(p), 3)
	stepped(t, "Term one below 2^62", got, sent, e, campaigned(p, 13), asks(top, 1, 3, 5))
}

// P10.3: a campaign of an empty log asks with Index and LogTerm 0, or with those of a snapshot; each other member is
// asked, rising.
func TestTickAsks(t *testing.T) {
	p := with(fresh(), func(p *api.Peer) { p.Id, p.Members, p.BaseMembers = 7, []int{3, 7, 9, 64}, []int{3, 7, 9, 64} })
	for name, c := range map[string]struct {
		from        api.Peer
		index, term uint64
	}{
		"an empty log": {p, 0, 0},
		"a snapshot":   {with(p, func(p *api.Peer) { p.Term, p.Base, p.BaseTerm, p.Commit = 5, 8, 3, 8 }), 8, 3},
		"a log":        {with(p, func(p *api.Peer) { p.Term, p.Log = 5, []api.Entry{{Term: 2}, {Term: 4}} }), 2, 4},
	} {
		got, sent, e := vote.Tick(copied(c.from), 0)
		want := with(c.from, func(p *api.Peer) {
			p.Term, p.Role, p.Vote, p.Votes, p.Wait = p.Term+1, api.Candidate, 7, []int{7}, 10
		})
		var asked []api.Msg
		for _, id := range []int{3, 9, 64} {
			asked = append(asked, api.Msg{Kind: api.Ask, From: 7, To: id, Term: want.Term, Index: c.index, LogTerm: c.term})
		}
		stepped(t, name, got, sent, e, want, asked)
	}
}

// P10.3: a member alone wins at once, and asks nobody; by a log, too.
func TestTickAlone(t *testing.T) {
	p, e := vote.New(1, 1, 1)
	if e != api.OK {
		t.Fatal(e)
	}
	got, sent, e := vote.Tick(p, 0)
	stepped(t, "alone", got, sent, e, api.Peer{
		Id: 1, Members: []int{1}, BaseMembers: []int{1}, Term: 1, Vote: 1, Role: api.Leader, Lead: 1,
		Log: []api.Entry{{Term: 1, Kind: api.Noop}}, Idle: 2, Wait: 10,
	}, nil)
	from := with(follower(), func(p *api.Peer) { p.Log[1].Members, p.Members, p.Idle = []int{2}, []int{2}, 11 })
	got, sent, e = vote.Tick(copied(from), 25)
	stepped(t, "alone behind a log", got, sent, e, with(copied(from), func(p *api.Peer) {
		p.Term, p.Vote, p.Role, p.Lead, p.Idle, p.Wait = 7, 2, api.Leader, 2, 2, 15
		p.Log = append(p.Log, api.Entry{Term: 7, Kind: api.Noop})
	}), nil)
}

// spoiled is members that may not be, one of each role and a zero one.
func spoiled() []api.Peer {
	return []api.Peer{
		{}, with(follower(), func(p *api.Peer) { p.Wait = 0 }), with(candidate(), func(p *api.Peer) { p.Votes = nil }),
		with(leader(), func(p *api.Peer) { p.Follows = nil }), with(follower(), func(p *api.Peer) { p.Commit = 99 }),
	}
}

// P10.3: ErrArg of a draw below 0, of each role, and of a member that may not be.
func TestTickWrong(t *testing.T) {
	for _, p := range []api.Peer{follower(), candidate(), leader(), fresh()} {
		for _, draw := range []int{-1, -10, math.MinInt} {
			got, sent, e := vote.Tick(p, draw)
			refused(t, fmt.Sprint("the draw ", draw), got, sent, e)
		}
	}
	for _, p := range spoiled() {
		got, sent, e := vote.Tick(p, 1)
		refused(t, fmt.Sprintf("Tick of %+v", p), got, sent, e)
	}
}

// reply is a Told from 2.
func reply(to int, term uint64, ok bool) []api.Msg {
	return []api.Msg{{Kind: api.Told, From: 2, To: to, Term: term, Ok: ok}}
}

// P10.4: an Ask of its own Term is granted by a Follower alone whose Vote is 0 or From.
func TestTakeAskVote(t *testing.T) {
	for id := range 4 {
		p := with(follower(), func(p *api.Peer) { p.Vote = id })
		for _, from := range []int{1, 3, 9, 64} { // of one that is no member, too
			m := ask()
			m.From = from
			ok := id == 0 || id == from
			want := copied(p)
			if ok {
				want.Vote, want.Idle = from, 0
			}
			got, sent, e := vote.Take(copied(p), m)
			stepped(t, fmt.Sprint("the Vote ", id, ", an Ask from ", from), got, sent, e, want, reply(from, 6, ok))
		}
	}
	for name, p := range map[string]api.Peer{
		"a candidate":             candidate(),
		"a leader":                leader(),
		"a leader that voted not": with(leader(), func(p *api.Peer) { p.Vote = 0 }),
		"a leader that voted so":  with(leader(), func(p *api.Peer) { p.Vote = 1 }),
	} {
		got, sent, e := vote.Take(copied(p), ask())
		stepped(t, name, got, sent, e, p, reply(1, 6, false))
	}
}

// P10.4: an Ask of a Term below its own is not granted, whatever else holds; the answer is of its own Term.
func TestTakeAskBelow(t *testing.T) {
	for name, p := range map[string]api.Peer{
		"a follower":               follower(),
		"a follower without Vote":  with(follower(), func(p *api.Peer) { p.Vote = 0 }),
		"a follower that voted so": with(follower(), func(p *api.Peer) { p.Vote = 1 }),
		"a candidate":              candidate(),
		"a leader":                 leader(),
	} {
		m := ask()
		m.Term = 5
		got, sent, e := vote.Take(copied(p), m)
		stepped(t, name, got, sent, e, p, reply(1, 6, false))
		m = api.Msg{Kind: api.Ask, From: 9, To: 2, Term: 1}
		got, sent, e = vote.Take(copied(p), m)
		stepped(t, name+", an Ask of Term 1", got, sent, e, p, reply(9, 6, false))
	}
}

// down is a member that stood down to a later term.
func down(from api.Peer, term uint64) api.Peer {
	return with(from, func(p *api.Peer) {
		p.Term, p.Vote, p.Lead, p.Role, p.Votes, p.Follows, p.Reads = term, 0, 0, api.Follower, nil, nil, nil
	})
}

// P10.4: an Ask of a Term above its own makes it stand down to that, granted or not.
func TestTakeAskAbove(t *testing.T) {
	for name, p := range map[string]api.Peer{"a follower": follower(), "a candidate": candidate(), "a leader": leader()} {
		for _, term := range []uint64{7, 100, top} {
			m := ask()
			m.Term = term
			want := down(p, term)
			want.Vote, want.Idle = 1, 0
			got, sent, e := vote.Take(copied(p), m)
			stepped(t, name+" grants", got, sent, e, want, reply(1, term, true))
			m.Index = 6
			got, sent, e = vote.Take(copied(p), m)
			stepped(t, name+" does not grant", got, sent, e, down(p, term), reply(1, term, false))
		}
	}
}

// P10.4: whose last entry is behind is not granted: by its term first, then by its index.
func TestTakeAskBehind(t *testing.T) {
	for _, c := range []struct {
		index, term uint64
		ok          bool
	}{
		{7, 5, true}, {8, 5, true}, {99, 5, true}, {top, 5, true}, {6, 5, false}, {1, 5, false},
		{1, 6, true}, {6, 6, true}, {7, 6, true}, {8, 6, true},
		{7, 4, false}, {8, 4, false}, {top, 4, false}, {99, 1, false}, {0, 0, false},
	} {
		p := with(follower(), func(p *api.Peer) { p.Vote = 0 })
		m := ask()
		m.Index, m.LogTerm = c.index, c.term
		want := copied(p)
		if c.ok {
			want.Vote, want.Idle = 1, 0
		}
		got, sent, e := vote.Take(p, m)
		stepped(t, fmt.Sprint("the last entry ", c.index, " of ", c.term), got, sent, e, want, reply(1, 6, c.ok))
	}
	snap := with(emptied(), func(p *api.Peer) { p.Vote = 0 }) // 4 of the term 2
	for _, c := range []struct {
		p           api.Peer
		index, term uint64
		ok          bool
	}{
		{snap, 4, 2, true}, {snap, 3, 2, false}, {snap, 5, 2, true}, {snap, 1, 3, true}, {snap, 9, 1, false}, {snap, 0, 0, false},
		{fresh(), 0, 0, true}, {fresh(), 1, 1, true},
	} {
		m := ask()
		m.Index, m.LogTerm = c.index, c.term
		_, sent, e := vote.Take(c.p, m)
		if e != api.OK || !equalMsgs(sent, reply(1, 6, c.ok)) {
			t.Errorf("an empty log, the last entry %d of %d: %+v, %v", c.index, c.term, sent, e)
		}
	}
}

// won is the candidate behind its win.
func won() api.Peer {
	return with(candidate(), func(p *api.Peer) {
		p.Role, p.Lead, p.Votes, p.Idle = api.Leader, 2, nil, 2
		p.Log = append(p.Log, api.Entry{Term: 6, Kind: api.Noop})
		p.Follows = []api.Follow{{Id: 1, Next: 8}, {Id: 3, Next: 8}, {Id: 5, Next: 8}}
	})
}

// P10.4: a Told counts if it is Ok, of its own Term, from one of Members, to a Candidate; nothing is sent by it.
func TestTakeTold(t *testing.T) {
	alone := with(candidate(), func(p *api.Peer) { p.Votes = []int{2} })
	tolds := func(to func(m *api.Msg)) api.Msg {
		m := told()
		to(&m)
		return m
	}
	votes := func(p api.Peer, l ...int) api.Peer { return with(p, func(p *api.Peer) { p.Votes = l }) }
	for name, c := range map[string]struct {
		from api.Peer
		m    api.Msg
		want api.Peer
	}{
		"the one that makes half":       {alone, told(), votes(alone, 1, 2)},
		"one behind":                    {alone, tolds(func(m *api.Msg) { m.From = 5 }), votes(alone, 2, 5)},
		"one in the midst":              {candidate(), tolds(func(m *api.Msg) { m.From = 3 }), won()},
		"the one that makes a majority": {candidate(), told(), won()},
		"one that voted already":        {candidate(), tolds(func(m *api.Msg) { m.From = 5 }), candidate()},
		"not Ok":                        {candidate(), tolds(func(m *api.Msg) { m.Ok = false }), candidate()},
		"of an earlier Term":            {candidate(), tolds(func(m *api.Msg) { m.Term = 5 }), candidate()},
		"of no member":                  {candidate(), tolds(func(m *api.Msg) { m.From = 4 }), candidate()},
		"of a member before": {
			with(candidate(), func(p *api.Peer) { p.BaseMembers = []int{1, 2, 4} }), tolds(func(m *api.Msg) { m.From = 4 }),
			with(candidate(), func(p *api.Peer) { p.BaseMembers = []int{1, 2, 4} }),
		},
		"a later Term, Ok":         {candidate(), tolds(func(m *api.Msg) { m.Term = 7 }), down(candidate(), 7)},
		"a later Term, not Ok":     {candidate(), tolds(func(m *api.Msg) { m.Term, m.Ok = 7, false }), down(candidate(), 7)},
		"a later Term, no member":  {candidate(), tolds(func(m *api.Msg) { m.Term, m.From = top, 4 }), down(candidate(), top)},
		"a follower":               {follower(), told(), follower()},
		"a follower, later Term":   {follower(), tolds(func(m *api.Msg) { m.Term = 7 }), down(follower(), 7)},
		"a leader, behind its win": {won(), told(), won()},
		"a leader":                 {leader(), told(), leader()},
		"a leader, later Term":     {leader(), tolds(func(m *api.Msg) { m.Term = 7 }), down(leader(), 7)},
		"a leader, not Ok":         {leader(), tolds(func(m *api.Msg) { m.Ok = false }), leader()},
		"a majority that there was": {
			votes(candidate(), 1, 2, 5), tolds(func(m *api.Msg) { m.From = 5 }), won(),
		},
	} {
		got, sent, e := vote.Take(copied(c.from), c.m)
		stepped(t, name, got, sent, e, c.want, nil)
	}
}

// P10.4: ErrArg of what is neither Ask nor Told, of another one's To, of members and messages that may not be.
func TestTakeWrong(t *testing.T) {
	for _, p := range []api.Peer{follower(), candidate(), leader()} {
		for _, m := range []api.Msg{lay(), heard(), install()} {
			got, sent, e := vote.Take(p, m)
			refused(t, fmt.Sprint("the kind ", m.Kind), got, sent, e)
		}
		for _, m := range []api.Msg{ask(), told()} {
			m.To = 3
			got, sent, e := vote.Take(p, m)
			refused(t, "another one's", got, sent, e)
			m.To, m.From = 1, 2
			got, sent, e = vote.Take(p, m)
			refused(t, "its own", got, sent, e)
			m.To, m.From = 2, 2
			got, sent, e = vote.Take(p, m)
			refused(t, "from itself", got, sent, e)
			m.From, m.Term = 1, 0
			got, sent, e = vote.Take(p, m)
			refused(t, "of Term 0", got, sent, e)
			m.Term, m.Snap = 6, "s"
			got, sent, e = vote.Take(p, m)
			refused(t, "with a Snap", got, sent, e)
		}
		for _, kind := range []api.MsgKind{api.NoMsg, 6, 200, 255} {
			got, sent, e := vote.Take(p, api.Msg{Kind: kind, From: 1, To: 2, Term: 6})
			refused(t, fmt.Sprint("the kind ", kind), got, sent, e)
		}
	}
	for _, p := range spoiled() {
		for _, m := range []api.Msg{ask(), told(), {}} {
			m.To = p.Id
			got, sent, e := vote.Take(p, m)
			refused(t, fmt.Sprintf("Take of %+v", p), got, sent, e)
		}
	}
}

// P10.5: to stand down to a term below, at and above its own, of each role.
func TestDown(t *testing.T) {
	same := map[string]api.Peer{
		"a follower":  follower(),
		"a candidate": with(candidate(), func(p *api.Peer) { p.Role, p.Votes = api.Follower, nil }),
		"a leader":    with(leader(), func(p *api.Peer) { p.Role, p.Lead, p.Follows, p.Reads = api.Follower, 0, nil, nil }),
	}
	for name, from := range map[string]func() api.Peer{"a follower": follower, "a candidate": candidate, "a leader": leader} {
		for _, term := range []uint64{0, 1, 5, 6} {
			got, e := vote.Down(from(), term)
			stepped(t, fmt.Sprint(name, " to ", term), got, nil, e, same[name], nil)
		}
		for _, term := range []uint64{7, 8, 1000, top} {
			got, e := vote.Down(from(), term)
			stepped(t, fmt.Sprint(name, " to ", term), got, nil, e, down(from(), term), nil)
		}
	}
	p := with(follower(), func(p *api.Peer) { p.Lead = 2 }) // it follows itself, as words that allow any Lead have it
	got, e := vote.Down(p, 6)
	stepped(t, "a follower that is its own Lead", got, nil, e, p, nil)
}

// P10.5: ErrArg of a member that may not be; and of a term that none may have, as what is answered may be (P10.7).
func TestDownWrong(t *testing.T) {
	for _, p := range spoiled() {
		got, e := vote.Down(p, 3)
		refused(t, fmt.Sprintf("Down of %+v", p), got, nil, e)
	}
	for _, p := range []api.Peer{fresh(), follower(), candidate(), leader()} {
		for _, term := range []uint64{top + 1, math.MaxUint64} {
			got, e := vote.Down(p, term)
			refused(t, fmt.Sprint("Down to ", term), got, nil, e)
		}
	}
}

// P10.3, P10.4, P10.5: each step of drawn members is what the words make of it; of those that may not be it is ErrArg.
func TestStepsDrawn(t *testing.T) {
	r := draws()
	wins, grants, wrong := 0, 0, 0
	for range 40000 {
		p, m := drawnPeer(r), drawnMsg(r)
		for m.Kind > api.Told && r.Intn(4) > 0 {
			m = drawnMsg(r)
		}
		if r.Intn(4) > 0 {
			m = turned(m, p)
		}
		if r.Intn(5) == 0 {
			spoil(r, &p)
		}
		if r.Intn(5) == 0 {
			spoil(r, &m)
		}
		draw, term := r.Intn(40)-1, uint64(r.Intn(9))
		mayTick, mayTake := memberMay(p) && draw >= 0, memberMay(p) && messageMay(m) && m.To == p.Id && m.Kind <= api.Told
		tick, take, low := copied(p), copied(p), copied(p)
		if mayTick {
			sent := wordsTick(&tick, draw)
			got, out, e := vote.Tick(copied(p), draw)
			sameStep(t, "Tick", p, got, out, e, tick, sent)
		} else {
			got, out, e := vote.Tick(copied(p), draw)
			refused(t, "Tick", got, out, e)
		}
		if mayTake {
			sent := wordsTake(&take, m)
			got, out, e := vote.Take(copied(p), copiedMsg(m))
			sameStep(t, fmt.Sprintf("Take of %+v", m), p, got, out, e, take, sent)
			if got.Role == api.Leader && p.Role != api.Leader {
				wins++
			}
			if len(out) == 1 && out[0].Ok {
				grants++
			}
		} else {
			wrong++
			got, out, e := vote.Take(copied(p), copiedMsg(m))
			refused(t, "Take", got, out, e)
		}
		got, e := vote.Down(copied(p), term)
		if memberMay(p) {
			wordsDown(&low, term)
			sameStep(t, fmt.Sprint("Down to ", term), p, got, nil, e, low, nil)
		} else {
			refused(t, "Down", got, nil, e)
		}
		if t.Failed() {
			t.FailNow()
		}
	}
	if wins < 100 || grants < 100 || wrong < 1000 {
		t.Errorf("what is drawn tells little: %d wins, %d grants, %d wrong", wins, grants, wrong)
	}
}

// turned is a message to a member, of its own term where that may be.
func turned(m api.Msg, p api.Peer) api.Msg {
	m.To = p.Id
	if m.From == m.To {
		m.From = m.To%7 + 1
	}
	if m.Kind <= api.Told && m.LogTerm <= p.Term && p.Term > 0 {
		m.Term = p.Term
	}
	return m
}

// sameStep holds a step of a drawn member to the words, which P10.7 binds on: what is answered may be.
func sameStep(t *testing.T, name string, from, got api.Peer, sent []api.Msg, e api.Errno, want api.Peer, wantSent []api.Msg) {
	t.Helper()
	bad := slices.ContainsFunc(sent, func(m api.Msg) bool { return !messageMay(m) && from.Base < top/2 })
	if e != api.OK || !equal(got, want) || !equalMsgs(sent, wantSent) || !memberMay(got) || bad {
		t.Errorf("%s\n of %+v:\n %+v, %+v, %v\n wanted %+v, %+v", name, from, got, sent, e, want, wantSent)
	}
	if got.Term < from.Term || got.Term == from.Term && got.Vote != from.Vote && from.Vote != 0 {
		t.Errorf("%s of %+v: the Term %d, the Vote %d", name, from, got.Term, got.Vote)
	}
}

// The chapter's examples.
func TestExamples(t *testing.T) {
	p, e := vote.New(1, 10, 1, 2, 3)
	if e != api.OK || p.Role != api.Follower {
		t.Fatalf("New(1, 10, 1, 2, 3): %+v, %v", p, e)
	}
	if _, e := vote.New(1, 10, 2, 1); e != api.ErrArg {
		t.Errorf("New(1, 10, 2, 1): %v", e)
	}
	if _, e := vote.New(0, 1, 1); e != api.ErrArg {
		t.Errorf("New(0, 1, 1): %v", e)
	}
	var sent []api.Msg
	for i := range 10 {
		if p, sent, e = vote.Tick(p, 13); e != api.OK || (i < 9) != (len(sent) == 0) {
			t.Fatalf("tick %d: %+v, %+v, %v", i+1, p, sent, e)
		}
	}
	if p.Term != 1 || p.Role != api.Candidate || p.Wait != 13 || len(sent) != 2 {
		t.Errorf("the tenth tick: %+v, %+v", p, sent)
	}
	q, _ := vote.New(2, 10, 1, 2, 3)
	q, answer, e := vote.Take(q, sent[0])
	if e != api.OK || !equalMsgs(answer, reply(1, 1, true)) || q.Vote != 1 {
		t.Errorf("the first Ask: %+v, %+v, %v", q, answer, e)
	}
	if _, second, e := vote.Take(q, api.Msg{Kind: api.Ask, From: 3, To: 2, Term: 1}); e != api.OK || !equalMsgs(second, reply(3, 1, false)) {
		t.Errorf("the second Ask: %+v, %v", second, e)
	}
	p, sent, e = vote.Take(p, answer[0])
	if e != api.OK || p.Role != api.Leader || len(sent) != 0 || len(p.Log) != 1 || p.Log[0].Kind != api.Noop {
		t.Errorf("the Told: %+v, %+v, %v", p, sent, e)
	}
	if !slices.Equal(p.Follows, []api.Follow{{Id: 2, Next: 1}, {Id: 3, Next: 1}}) {
		t.Errorf("its Follows: %+v", p.Follows)
	}
	alone, _ := vote.New(1, 1, 1)
	if alone, _, e = vote.Tick(alone, 0); e != api.OK || alone.Role != api.Leader || alone.Term != 1 {
		t.Errorf("one alone: %+v, %v", alone, e)
	}
	if four := []int{1, 2, 3, 4}; vote.Majority(four, 1, 2) || !vote.Majority(four, 1, 2, 4, 9) {
		t.Errorf("Majority of 1 2 3 4")
	}
}
