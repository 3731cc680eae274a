package trim

import (
	"slices"

	"tessera/api"
	"tessera/logs"
	"tessera/peers"
	"tessera/vote"
)

// Take does what a leader's snapshot says.
func Take(p api.Peer, m api.Msg) (api.Peer, []api.Msg, api.Errno) {
	if vote.May(p) != api.OK || vote.MayMsg(m) != api.OK || m.Kind != api.Install || m.To != p.Id {
		return api.Peer{}, nil, api.ErrArg
	}
	switch {
	case m.Term < p.Term:
		last, _ := vote.Last(p)
		return peers.Clone(p), heard(p, m.From, false, last, 0), api.OK
	case m.Term == p.Term && p.Role == api.Leader:
		return peers.Clone(p), nil, api.OK
	}
	p, _ = vote.Down(p, m.Term)
	p.Lead, p.Idle = m.From, 0
	if m.Index > p.Commit {
		p = install(p, m)
	}
	return p, heard(p, m.From, true, p.Commit, m.Round), api.OK
}

// install puts a snapshot in the place of the log. What stands behind it stays only where the log has what the
// snapshot ends with, for else it may be another leader's.
func install(p api.Peer, m api.Msg) api.Peer {
	var stay []api.Entry
	if term, there := vote.Term(p, m.Index); there && term == m.LogTerm {
		stay = behind(p, m.Index)
	}
	p = cutOff(p, snapshot{index: m.Index, term: m.LogTerm, members: slices.Clone(m.Members), snap: m.Snap}, stay)
	p.Commit = p.Base
	return p
}

// heard is p's answer to a leader.
func heard(p api.Peer, to int, ok bool, index, round uint64) []api.Msg {
	return []api.Msg{{Kind: api.Heard, From: p.Id, To: to, Term: p.Term, Ok: ok, Index: index, Round: round}}
}

// Step does what a message of any kind says.
func Step(p api.Peer, m api.Msg) (api.Peer, []api.Msg, api.Errno) {
	if m.Kind == api.NoMsg || m.Kind > api.Install {
		return api.Peer{}, nil, api.ErrArg
	}
	return takings()[m.Kind](p, m)
}

// taking is a layer's call by which a member takes a message.
type taking func(p api.Peer, m api.Msg) (api.Peer, []api.Msg, api.Errno)

// takings are by their kinds; there is none of no message.
func takings() [api.Install + 1]taking {
	return [api.Install + 1]taking{
		api.Ask: takeVotes, api.Told: takeVotes,
		api.Lay: logs.Take, api.Heard: logs.Take,
		api.Install: Take,
	}
}

// takeVotes lets a member that leads then advance, whether or not the message made it lead: layer 10 knows of no Commit.
func takeVotes(p api.Peer, m api.Msg) (api.Peer, []api.Msg, api.Errno) {
	p, sent, e := vote.Take(p, m)
	if e != api.OK {
		return api.Peer{}, nil, e
	}
	p, e = logs.Advance(p)
	return p, sent, e
}
