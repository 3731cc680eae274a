package keep

import (
	"tessera/api"
	"tessera/peers"
	"tessera/vote"
)

// Fold is the member that records make of a new one, and how many they are; beside ErrKeep which one is wrong.
func Fold(id, wait int, members []int, records ...string) (p api.Peer, at int, e api.Errno) {
	p, e = vote.New(id, wait, members...)
	if e != api.OK {
		return api.Peer{}, 0, e
	}
	for at, record := range records {
		var may bool
		if p, may = do(p, record); !may {
			return api.Peer{}, at, api.ErrKeep
		}
	}
	return p, len(records), api.OK
}

// do is p, whose lists are Fold's own, behind a record, if it may stand there.
func do(p api.Peer, record string) (q api.Peer, may bool) {
	if record == "" {
		return p, false
	}
	r := peers.NewReader(record[1:])
	switch record[0] {
	case wholeMark:
		p, may = doWhole(p, r, len(record))
	case voteMark:
		p, may = doVote(p, r)
	case baseMark:
		p, may = doBase(p, r)
	case cutMark:
		p, may = doCut(p, r)
	case entryMark:
		p, may = doEntry(p, r)
	}
	return p, may && r.Ended()
}

// doWhole takes the record's length, which bounds how many entries it can have.
func doWhole(p api.Peer, r *peers.Reader, length int) (api.Peer, bool) {
	p.Term, p.Vote = r.Num(), r.Id()
	p = readBase(p, r)
	p.Log = r.Entries(length)
	p = seat(p)
	return p, vote.May(p) == api.OK
}

func doVote(p api.Peer, r *peers.Reader) (api.Peer, bool) {
	p.Term, p.Vote = r.Num(), r.Id()
	return p, vote.May(short(p)) == api.OK
}

// doBase keeps the entries behind the new Base, if the one that stood there was the same.
func doBase(p api.Peer, r *peers.Reader) (api.Peer, bool) {
	q := readBase(p, r)
	if q.Base < p.Base {
		return p, false
	}
	if term, there := vote.Term(p, q.Base); there && term == q.BaseTerm {
		q.Log = p.Log[q.Base-p.Base:]
	} else {
		q.Log = nil
	}
	q = seat(q)
	return q, vote.May(q) == api.OK
}

// doCut needs no look at what is left: what was ahead of an entry may be without it.
func doCut(p api.Peer, r *peers.Reader) (api.Peer, bool) {
	from := r.Num()
	if last, _ := vote.Last(p); from <= p.Base || from > last {
		return p, false
	}
	p.Log = p.Log[:from-p.Base-1]
	return seat(p), true
}

func doEntry(p api.Peer, r *peers.Reader) (api.Peer, bool) {
	i, entry := r.Num(), r.Entry()
	if last, _ := vote.Last(p); i != last+1 {
		return p, false
	}
	q := short(p)
	q.Log = []api.Entry{entry}
	q = seat(q)
	p.Log, p.Members = append(p.Log, entry), q.Members
	return p, vote.May(q) == api.OK
}

// readBase is p with the record's Base and what belongs to it, and with the entries that it has.
func readBase(p api.Peer, r *peers.Reader) api.Peer {
	p.Base, p.BaseTerm = r.Num(), r.Num()
	p.BaseMembers, p.Snap = r.Ids(), r.Text()
	p.Commit = p.Base
	return p
}

// seat is p with the members as of its last entry.
func seat(p api.Peer) api.Peer {
	last, _ := vote.Last(p)
	p.Members = vote.Members(p, last)
	return p
}

// short is p as if a snapshot stood for its entries. Whether a further one may stand behind them, or p may be in
// another term, hangs on the last one's term and members alone, so a long log is not gone over for each record.
func short(p api.Peer) api.Peer {
	if len(p.Log) == 0 {
		return p
	}
	p.Base = max(p.Base, 1) // which index it is does not matter, but that there is one does
	_, p.BaseTerm = vote.Last(p)
	p.BaseMembers, p.Log, p.Commit = p.Members, nil, p.Base
	return p
}
