package trim_test

import (
	"fmt"
	"testing"

	"tessera/api"
	"tessera/logs"
	"tessera/trim"
	"tessera/vote"
)

// P13.3: a message of each kind goes to its layer's call, by each role.
func TestStep(t *testing.T) {
	msgs := otherKinds()
	msgs["Install"] = installOf(11, 6)
	msgs["Install of what is there"] = installOf(9, 5)
	msgs["Heard, not Ok"] = api.Msg{Kind: api.Heard, From: 3, To: 2, Term: 6, Index: 1}
	msgs["Lay, not there"] = api.Msg{Kind: api.Lay, From: 3, To: 2, Term: 6, Index: 30, LogTerm: 6}
	msgs["Told, not Ok"] = api.Msg{Kind: api.Told, From: 1, To: 2, Term: 6}
	for name, p := range roles() {
		for what, m := range msgs {
			for _, term := range []uint64{6, 7, 9} {
				m.Term = max(m.LogTerm, term)
				name := fmt.Sprint(name, ", ", what, ", Term ", m.Term)
				want := copied(p)
				var wantSent []api.Msg
				switch m.Kind {
				case api.Ask, api.Told:
					wantSent = wordsVotes(&want, m)
				case api.Install:
					wantSent = wordsInstall(&want, m)
				default:
					want, wantSent, _ = logs.Take(p, m)
				}
				got, sent, e := trim.Step(p, m)
				if stepped(t, name, p, got, sent, e, want, wantSent); vote.May(want) != api.OK {
					t.Errorf("%s: what is wanted may not be: %+v", name, want)
				}
			}
		}
	}
}

// P13.3: ErrArg of a kind that is none of the five, and where the layer's call says so.
func TestStepWrong(t *testing.T) {
	for name, p := range roles() {
		for kind := range 256 {
			if kind >= int(api.Ask) && kind <= int(api.Install) {
				continue
			}
			for _, m := range []api.Msg{{}, {From: 1, To: 2, Term: 6}, installOf(11, 6)} {
				m.Kind = api.MsgKind(kind)
				got, sent, e := trim.Step(p, m)
				refused(t, fmt.Sprint(name, ", the kind ", kind), got, sent, e, api.ErrArg)
			}
		}
		for what, m := range wrongMsgs() {
			got, sent, e := trim.Step(p, m)
			refused(t, name+", "+what, got, sent, e, api.ErrArg)
		}
		for what, m := range otherKinds() {
			for _, m := range []api.Msg{
				withMsg(m, func(m *api.Msg) { m.To = 3 }), withMsg(m, func(m *api.Msg) { m.From = 2 }),
				withMsg(m, func(m *api.Msg) { m.Term = 0 }), withMsg(m, func(m *api.Msg) { m.Snap = "x" }),
				withMsg(m, func(m *api.Msg) { m.Members = []int{1} }),
			} {
				got, sent, e := trim.Step(p, m)
				refused(t, fmt.Sprintf("%s, %s: %+v", name, what, m), got, sent, e, api.ErrArg)
			}
		}
	}
	for _, p := range spoiled() {
		msgs := otherKinds()
		msgs["Install"] = installOf(11, 6)
		for what, m := range msgs {
			if m.To = p.Id; p.Id == 0 {
				m.To = 2
			}
			got, sent, e := trim.Step(p, m)
			refused(t, fmt.Sprintf("%s to %+v", what, p), got, sent, e, api.ErrArg)
		}
	}
}

// P13.3: by a Told a candidate leads, as layer 10 has it; behind it nothing is committed yet but what was.
func TestStepLeads(t *testing.T) {
	p := candidate()
	got, sent, e := trim.Step(p, api.Msg{Kind: api.Told, From: 3, To: 2, Term: 6, Ok: true})
	want := with(p, func(p *api.Peer) {
		p.Role, p.Lead, p.Votes, p.Idle = api.Leader, 2, nil, 2
		p.Log = append(p.Log, api.Entry{Term: 6, Kind: api.Noop})
		p.Follows = []api.Follow{{Id: 1, Next: 11}, {Id: 3, Next: 11}, {Id: 5, Next: 11}}
	})
	stepped(t, "a majority", p, got, sent, e, want, nil)
	got, sent, e = trim.Step(p, api.Msg{Kind: api.Told, From: 4, To: 2, Term: 6, Ok: true})
	stepped(t, "from no member", p, got, sent, e, p, nil)
	got, sent, e = trim.Step(p, api.Msg{Kind: api.Told, From: 3, To: 2, Term: 6})
	stepped(t, "not Ok", p, got, sent, e, p, nil)
	two := with(fresh(), func(p *api.Peer) {
		p.Members, p.BaseMembers = []int{1, 2}, []int{1, 2}
		p.Role, p.Term, p.Vote, p.Votes = api.Candidate, 1, 2, []int{2}
	})
	got, sent, e = trim.Step(two, api.Msg{Kind: api.Told, From: 1, To: 2, Term: 1, Ok: true})
	want = with(two, func(p *api.Peer) {
		p.Role, p.Lead, p.Votes, p.Idle = api.Leader, 2, nil, 2
		p.Log, p.Follows = []api.Entry{{Term: 1, Kind: api.Noop}}, []api.Follow{{Id: 1, Next: 1}}
	})
	stepped(t, "a group of two", two, got, sent, e, want, nil)
}

// P13.3: who leads behind an Ask or a Told advances, be it a group of one or of more; who does not is as layer 10 has
// it; behind a Lay it does not advance.
func TestStepAdvances(t *testing.T) {
	several := with(leader(), func(p *api.Peer) {
		p.Follows = []api.Follow{{Id: 1, Next: 11, Match: 10}, {Id: 3, Next: 11, Match: 10}, {Id: 5, Next: 1}}
	})
	for name, c := range map[string]struct {
		p      api.Peer
		commit uint64
	}{
		"one alone": {one(), 2}, "several": {several, 10}, "no majority": {leader(), 8},
		"one alone, of elder entries": {with(one(), func(p *api.Peer) { p.Term = 4 }), 0},
	} {
		want := with(c.p, func(p *api.Peer) { p.Commit = c.commit })
		for _, term := range []uint64{1, c.p.Term} {
			ask := api.Msg{Kind: api.Ask, From: 1, To: 2, Term: term, Index: 99, LogTerm: term}
			told := []api.Msg{{Kind: api.Told, From: 2, To: 1, Term: c.p.Term}}
			got, sent, e := trim.Step(c.p, ask)
			stepped(t, name+", an Ask", c.p, got, sent, e, want, told)
			got, sent, e = trim.Step(c.p, api.Msg{Kind: api.Told, From: 1, To: 2, Term: term, Ok: true})
			stepped(t, name+", a Told", c.p, got, sent, e, want, nil)
		}
		got, sent, e := trim.Step(c.p, api.Msg{Kind: api.Lay, From: 1, To: 2, Term: c.p.Term})
		stepped(t, name+", a Lay", c.p, got, sent, e, c.p, nil)
		got, sent, e = trim.Step(c.p, withMsg(installOf(99, 1), func(m *api.Msg) { m.Term = c.p.Term }))
		stepped(t, name+", an Install", c.p, got, sent, e, c.p, nil)
		later := with(c.p, func(p *api.Peer) {
			p.Role, p.Term, p.Vote, p.Lead, p.Follows, p.Reads = api.Follower, 9, 0, 0, nil, nil
		})
		got, sent, e = trim.Step(c.p, api.Msg{Kind: api.Told, From: 1, To: 2, Term: 9, Ok: true})
		stepped(t, name+", a later Told", c.p, got, sent, e, later, nil)
	}
}

// P13.3: a group of one goes on by itself, and its log is cut off as it goes.
func TestStepAlone(t *testing.T) {
	p, e := vote.New(7, 1, 7)
	if e != api.OK {
		t.Fatal(e)
	}
	if p, _, e = logs.Tick(p, 0); e != api.OK || p.Role != api.Leader || p.Commit != 1 {
		t.Fatalf("one alone: %+v, %v", p, e)
	}
	for i := uint64(2); i < 50; i++ {
		var at uint64
		if p, at, e = logs.Propose(p, "x"); e != api.OK || at != i || p.Commit != i {
			t.Fatalf("Propose: %d, %v: %+v", at, e, p)
		}
		if i%3 == 0 {
			if p, e = trim.Compact(p, i-1, fmt.Sprint("up to ", i-1)); e != api.OK || p.Base != i-1 || len(p.Log) != 1 {
				t.Fatalf("Compact: %v: %+v", e, p)
			}
		}
		q, sent, e := trim.Step(p, api.Msg{Kind: api.Ask, From: 1, To: 7, Term: 1, Index: 9, LogTerm: 1})
		stepped(t, "an Ask of another one", p, q, sent, e, p, []api.Msg{{Kind: api.Told, From: 7, To: 1, Term: 1}})
	}
}
