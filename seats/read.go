package seats

import (
	"slices"

	"tessera/api"
	"tessera/logs"
	"tessera/peers"
	"tessera/vote"
)

const mostRound uint64 = 1 << 62 // above which there is no member

// Read begins a reading: its round, and what is sent for it.
func Read(p api.Peer) (q api.Peer, round uint64, l []api.Msg, e api.Errno) {
	switch {
	case vote.May(p) != api.OK:
		return api.Peer{}, 0, nil, api.ErrArg
	case p.Role != api.Leader:
		return api.Peer{}, 0, nil, api.ErrLead
	case !sure(p) || p.Round == mostRound:
		return api.Peer{}, 0, nil, api.ErrRetry
	}
	q = peers.Clone(p)
	q.Round++
	q.Reads = append(q.Reads, api.Read{Round: q.Round, Index: q.Commit, Acks: []int{q.Id}})
	for _, f := range q.Follows {
		m, _ := logs.Send(q, f.Id) // q leads and follows it, so there is no fault
		l = append(l, m)
	}
	return q, q.Round, l, api.OK
}

// Ready is the readings by which a leader is sure to be one still. Who does not lead has none.
func Ready(p api.Peer) (q api.Peer, l []api.Read, e api.Errno) {
	if vote.May(p) != api.OK {
		return api.Peer{}, nil, api.ErrArg
	}
	q = peers.Clone(p)
	ready := func(read api.Read) bool { return vote.Majority(p.Members, read.Acks...) }
	for _, read := range q.Reads {
		if ready(read) {
			l = append(l, read)
		}
	}
	q.Reads = slices.DeleteFunc(q.Reads, ready) // by which q lets go of what l has now
	return q, l, api.OK
}
