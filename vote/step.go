package vote

import (
	"slices"

	"tessera/api"
	"tessera/peers"
)

// Tick lets one tick go by: a member that has waited long enough campaigns.
func Tick(p api.Peer, draw int) (api.Peer, []api.Msg, api.Errno) {
	if May(p) != api.OK || draw < 0 {
		return api.Peer{}, nil, api.ErrArg
	}
	p = peers.Clone(p)
	if p.Role == api.Leader {
		return p, nil, api.OK
	}
	p.Idle = min(p.Idle+1, mostTicks)
	if p.Idle < p.Wait || !seated(p) || p.Term >= most {
		return p, nil, api.OK
	}
	p, asks := campaign(p, draw)
	return p, asks, api.OK
}

// Take does what a message of votes says.
func Take(p api.Peer, m api.Msg) (api.Peer, []api.Msg, api.Errno) {
	if May(p) != api.OK || MayMsg(m) != api.OK || m.To != p.Id {
		return api.Peer{}, nil, api.ErrArg
	}
	do := doings()[m.Kind]
	if do == nil {
		return api.Peer{}, nil, api.ErrArg
	}
	p = peers.Clone(p)
	if m.Term > p.Term {
		p = standDown(p, m.Term)
	}
	p, answers := do(p, m)
	return p, answers, api.OK
}

// Down lets a member stand down to a term. One above the bound may not be, for no member could have it.
func Down(p api.Peer, term uint64) (api.Peer, api.Errno) {
	if May(p) != api.OK || term > most {
		return api.Peer{}, api.ErrArg
	}
	return standDown(peers.Clone(p), term), api.OK
}

// doing is what a message does to a member that has lists of its own, and what it sends.
type doing func(p api.Peer, m api.Msg) (api.Peer, []api.Msg)

// doings are by their kinds; those that other layers take have none here.
func doings() [api.Install + 1]doing {
	return [api.Install + 1]doing{api.Ask: answerAsk, api.Told: countTold}
}

func answerAsk(p api.Peer, m api.Msg) (api.Peer, []api.Msg) {
	ok := grants(p, m)
	if ok {
		p.Vote, p.Idle = m.From, 0
	}
	return p, []api.Msg{{Kind: api.Told, From: p.Id, To: m.From, Term: p.Term, Ok: ok}}
}

func grants(p api.Peer, m api.Msg) bool {
	index, term := Last(p)
	notBehind := m.LogTerm > term || m.LogTerm == term && m.Index >= index
	return notBehind && m.Term == p.Term && p.Role == api.Follower && (p.Vote == 0 || p.Vote == m.From)
}

func countTold(p api.Peer, m api.Msg) (api.Peer, []api.Msg) {
	if m.Term != p.Term || p.Role != api.Candidate || !m.Ok || !slices.Contains(p.Members, m.From) {
		return p, nil
	}
	p.Votes = once(append(p.Votes, m.From))
	return winIfMost(p), nil
}

// campaign lets a member ask all others for their votes, in a new term.
func campaign(p api.Peer, draw int) (api.Peer, []api.Msg) {
	p.Term++
	p.Role, p.Lead = api.Candidate, 0
	p.Vote, p.Votes = p.Id, []int{p.Id}
	p.Idle, p.Wait = 0, api.MinWait+draw%api.Spread
	index, term := Last(p)
	var asks []api.Msg
	for _, id := range others(p) {
		asks = append(asks, api.Msg{Kind: api.Ask, From: p.Id, To: id, Term: p.Term, Index: index, LogTerm: term})
	}
	return winIfMost(p), asks
}

// winIfMost lets a candidate lead, if a majority has voted for it.
func winIfMost(p api.Peer) api.Peer {
	if !Majority(p.Members, p.Votes...) {
		return p
	}
	p.Role, p.Lead, p.Votes = api.Leader, p.Id, nil
	p.Idle = api.Beat - 1 // so that its next tick tells the others
	p.Log = append(p.Log, api.Entry{Term: p.Term, Kind: api.Noop})
	next, _ := Last(p)
	for _, id := range others(p) {
		p.Follows = append(p.Follows, api.Follow{Id: id, Next: next})
	}
	return p
}

// standDown lets a member follow, in that term if it is a later one.
func standDown(p api.Peer, term uint64) api.Peer {
	if p.Role == api.Leader {
		p.Lead = 0
	}
	if term > p.Term {
		p.Term, p.Vote, p.Lead = term, 0, 0
	}
	p.Role = api.Follower
	p.Votes, p.Follows, p.Reads = nil, nil, nil
	return p
}
