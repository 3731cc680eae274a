package logs

import (
	"slices"

	"tessera/api"
	"tessera/peers"
	"tessera/vote"
)

// Take does what a message of the log says.
func Take(p api.Peer, m api.Msg) (api.Peer, []api.Msg, api.Errno) {
	if vote.May(p) != api.OK || vote.MayMsg(m) != api.OK || m.To != p.Id {
		return api.Peer{}, nil, api.ErrArg
	}
	var sent []api.Msg
	switch m.Kind {
	case api.Lay:
		p, sent = takeLay(raised(p, m.Term), m)
	case api.Heard:
		p, sent = takeHeard(raised(p, m.Term), m)
	default:
		return api.Peer{}, nil, api.ErrArg
	}
	return p, sent, api.OK
}

// raised is a copy of p that has stood down to a term, if that is a later one.
func raised(p api.Peer, term uint64) api.Peer {
	if term > p.Term {
		p, _ = vote.Down(p, term)
		return p
	}
	return peers.Clone(p)
}

func takeLay(p api.Peer, m api.Msg) (api.Peer, []api.Msg) {
	if m.Term < p.Term {
		last, _ := vote.Last(p)
		return p, heard(p, m.From, false, last, 0)
	}
	if p.Role == api.Leader {
		return p, nil
	}
	p, _ = vote.Down(p, m.Term)
	p.Lead, p.Idle = m.From, 0
	return lay(p, m)
}

// lay puts m's entries where they belong, if p has what they stand behind. What is at or below Base is committed,
// so it needs no look.
func lay(p api.Peer, m api.Msg) (api.Peer, []api.Msg) {
	behind, rest := m.Index, m.Entries
	if behind < p.Base {
		rest = rest[min(p.Base-behind, uint64(len(rest))):]
		behind = p.Base
	} else if term, there := vote.Term(p, behind); !there || term != m.LogTerm {
		last, _ := vote.Last(p)
		return p, heard(p, m.From, false, min(last, behind-1), m.Round)
	}
	upTo := behind + uint64(len(rest))
	p, whole := join(p, behind, rest)
	if !whole {
		return p, nil
	}
	p.Commit = max(p.Commit, min(m.Commit, upTo))
	return p, heard(p, m.From, true, upTo, m.Round)
}

// join is p with those entries behind an index, of which it puts away what parts from them; not whole, if that
// were to change what is committed. An entry above Base of a term below BaseTerm says that Base itself was another
// one there, and Base is committed.
func join(p api.Peer, behind uint64, l []api.Entry) (q api.Peer, whole bool) {
	for at, entry := range l {
		i := behind + uint64(at) + 1
		if term, there := vote.Term(p, i); there && term == entry.Term {
			continue
		}
		if i <= p.Commit || entry.Term < p.BaseTerm {
			return p, false
		}
		stay := i - p.Base - 1
		p.Log = append(p.Log[:stay:stay], peers.Entries(l[at:])...)
		last, _ := vote.Last(p)
		p.Members = vote.Members(p, last)
		break
	}
	return p, true
}

// heard is p's answer to a leader.
func heard(p api.Peer, to int, ok bool, index, round uint64) []api.Msg {
	return []api.Msg{{Kind: api.Heard, From: p.Id, To: to, Term: p.Term, Ok: ok, Index: index, Round: round}}
}

func takeHeard(p api.Peer, m api.Msg) (api.Peer, []api.Msg) {
	at := followAt(p, m.From)
	if m.Term != p.Term || at < 0 { // who does not lead has no Follows
		return p, nil
	}
	last, _ := vote.Last(p)
	f := &p.Follows[at]
	if !m.Ok {
		f.Next = max(f.Match+1, min(f.Next-1, m.Index+1))
		return p, []api.Msg{message(p, *f)}
	}
	f.Match = max(f.Match, min(m.Index, last))
	f.Next = f.Match + 1
	p = acknowledge(advance(p), m)
	if f.Next > last {
		return p, nil
	}
	return p, []api.Msg{message(p, *f)}
}

// acknowledge puts who was heard among those that answered each reading up to the round.
func acknowledge(p api.Peer, m api.Msg) api.Peer {
	for at, read := range p.Reads {
		place, there := slices.BinarySearch(read.Acks, m.From)
		if read.Round <= m.Round && !there {
			p.Reads[at].Acks = slices.Insert(read.Acks, place, m.From)
		}
	}
	return p
}
