package logs

import (
	"slices"

	"tessera/api"
	"tessera/vote"
)

// Send is what a leader sends to one of its Follows.
func Send(p api.Peer, to int) (api.Msg, api.Errno) {
	at := followAt(p, to)
	switch {
	case vote.May(p) != api.OK:
		return api.Msg{}, api.ErrArg
	case p.Role != api.Leader:
		return api.Msg{}, api.ErrLead
	case at < 0:
		return api.Msg{}, api.ErrNone
	}
	return message(p, p.Follows[at]), api.OK
}

// Tick lets one tick go by: a leader sends at each Beat, another one may campaign.
func Tick(p api.Peer, draw int) (api.Peer, []api.Msg, api.Errno) {
	led := p.Role == api.Leader
	p, sent, e := vote.Tick(p, draw) // by which a leader stays as it is
	if e != api.OK || p.Role != api.Leader {
		return p, sent, e
	}
	p = advance(p)
	if led {
		p, sent = beat(p)
	}
	return p, sent, api.OK
}

// beat lets a leader's tick go by. Its Idle needs no bound of its own: from Beat on it is 0.
func beat(p api.Peer) (api.Peer, []api.Msg) {
	p.Idle++
	if p.Idle < api.Beat {
		return p, nil
	}
	p.Idle = 0
	var sent []api.Msg
	for _, f := range p.Follows {
		sent = append(sent, message(p, f))
	}
	return p, sent
}

// followAt is where a member stands among the Follows, below 0 if it does not.
func followAt(p api.Peer, id int) int {
	return slices.IndexFunc(p.Follows, func(f api.Follow) bool { return f.Id == id })
}

// message is a Lay of what comes next for a member, or an Install, if the log no longer has what is ahead of that.
func message(p api.Peer, f api.Follow) api.Msg {
	m := api.Msg{From: p.Id, To: f.Id, Term: p.Term, Round: p.Round}
	m.Index = f.Next - 1
	if m.Index < p.Base {
		m.Kind = api.Install
		m.Index, m.LogTerm = p.Base, p.BaseTerm
		m.Members, m.Snap = slices.Clone(p.BaseMembers), p.Snap
		return m
	}
	m.Kind, m.Commit = api.Lay, p.Commit
	m.LogTerm, _ = vote.Term(p, m.Index)
	last, _ := vote.Last(p)
	m.Entries = entries(p, f.Next, min(last, m.Index+api.MaxLay))
	return m
}
