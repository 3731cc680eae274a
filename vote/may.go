package vote

import (
	"slices"

	"tessera/api"
)

const (
	most      uint64 = 1 << 62 // of terms, indices and rounds, so that one more is still a number
	mostTicks        = 1 << 30
)

// May says whether p may be a member.
func May(p api.Peer) api.Errno {
	if mayNumbers(p) && mayLog(p) && mayMembers(p) && mayRole(p) {
		return api.OK
	}
	return api.ErrArg
}

// MayMsg says whether m may be a message.
func MayMsg(m api.Msg) api.Errno {
	if mayHead(m) && mayPlace(m) && mayLists(m) && empty(unnamed(m)) {
		return api.OK
	}
	return api.ErrArg
}

func mayNumbers(p api.Peer) bool {
	return isId(p.Id) && noneOrId(p.Vote) && noneOrId(p.Lead) &&
		p.Role <= api.Leader &&
		p.Term <= most && p.Base <= most && p.Round <= most &&
		0 < p.Wait && p.Wait <= mostTicks && 0 <= p.Idle && p.Idle <= mostTicks
}

func isId(id int) bool { return 1 <= id && id <= api.MaxNodes }

func noneOrId(id int) bool { return id == 0 || isId(id) }

// areIds says whether these are numbers that members may have, rising, each once.
func areIds(ids []int) bool {
	before := 0
	for _, id := range ids {
		if id <= before || !isId(id) {
			return false
		}
		before = id
	}
	return true
}

// areMembers says whether these may be a group.
func areMembers(ids []int) bool { return len(ids) > 0 && areIds(ids) }

func mayLog(p api.Peer) bool {
	last, _ := Last(p)
	return (p.Base == 0) == (p.BaseTerm == 0) &&
		(p.Base > 0 || p.Snap == "") &&
		p.BaseTerm <= p.Term &&
		mayEntries(p.Log, p.BaseTerm, p.Term) &&
		p.Base <= p.Commit && p.Commit <= last
}

// mayEntries says whether entries may be, with terms that do not fall between two others.
func mayEntries(l []api.Entry, from, to uint64) bool {
	for _, entry := range l {
		if entry.Term == 0 || entry.Term < from || entry.Term > to || !mayEntry(entry) {
			return false
		}
		from = entry.Term
	}
	return true
}

func mayEntry(entry api.Entry) bool {
	switch entry.Kind {
	case api.Plain:
		return len(entry.Members) == 0
	case api.Noop:
		return len(entry.Members) == 0 && entry.Data == ""
	case api.Seats:
		return areMembers(entry.Members) && entry.Data == ""
	}
	return false
}

// mayMembers stands on entries that may be.
func mayMembers(p api.Peer) bool {
	return areMembers(p.BaseMembers) && slices.Equal(p.Members, membersOf(p, len(p.Log)))
}

func mayRole(p api.Peer) bool {
	if p.Role == api.Leader {
		return mayLead(p)
	}
	if len(p.Follows) > 0 || len(p.Reads) > 0 {
		return false
	}
	if p.Role == api.Candidate {
		return mayStand(p)
	}
	return len(p.Votes) == 0
}

func mayStand(p api.Peer) bool {
	return p.Lead == 0 && p.Vote == p.Id && areIds(p.Votes) &&
		seated(p) && slices.Contains(p.Votes, p.Id) &&
		!slices.ContainsFunc(p.Votes, func(id int) bool { return !slices.Contains(p.Members, id) })
}

func mayLead(p api.Peer) bool {
	return p.Lead == p.Id && p.Term > 0 && len(p.Votes) == 0 && mayFollows(p) && mayReads(p)
}

func mayFollows(p api.Peer) bool {
	last, _ := Last(p)
	return slices.EqualFunc(p.Follows, others(p), func(f api.Follow, id int) bool {
		return f.Id == id && 1 <= f.Next && f.Next <= last+1 && f.Match < f.Next
	})
}

func mayReads(p api.Peer) bool {
	for at, read := range p.Reads {
		if at > 0 && read.Round <= p.Reads[at-1].Round {
			return false
		}
		if read.Round > p.Round || read.Index > p.Commit || !areIds(read.Acks) {
			return false
		}
	}
	return true
}

// seated says whether p is one of its members.
func seated(p api.Peer) bool { return slices.Contains(p.Members, p.Id) }

// others is the members but p itself.
func others(p api.Peer) []int {
	return slices.DeleteFunc(slices.Clone(p.Members), func(id int) bool { return id == p.Id })
}

// mayHead is what every kind of messages has.
func mayHead(m api.Msg) bool {
	return api.NoMsg < m.Kind && m.Kind <= api.Install &&
		isId(m.From) && isId(m.To) && m.From != m.To &&
		0 < m.Term && m.Term <= most
}

// mayPlace says whether the place in a log may be of which m speaks.
func mayPlace(m api.Msg) bool {
	if m.Index > most || m.Round > most || m.LogTerm > m.Term {
		return false
	}
	switch m.Kind {
	case api.Ask, api.Lay:
		return (m.Index == 0) == (m.LogTerm == 0)
	case api.Install:
		return m.Index > 0 && m.LogTerm > 0
	}
	return true
}

func mayLists(m api.Msg) bool {
	switch m.Kind {
	case api.Lay:
		return len(m.Entries) <= api.MaxLay && mayEntries(m.Entries, m.LogTerm, m.Term)
	case api.Install:
		return areMembers(m.Members)
	}
	return true
}

// unnamed is m without what its kind names: nothing must be left then.
func unnamed(m api.Msg) api.Msg {
	switch m.Kind {
	case api.Install:
		m.Index, m.LogTerm, m.Round, m.Members, m.Snap = 0, 0, 0, nil, ""
	case api.Lay:
		m.Commit, m.Round, m.Entries = 0, 0, nil
		fallthrough
	case api.Ask:
		m.Index, m.LogTerm = 0, 0
	case api.Heard:
		m.Index, m.Round = 0, 0
		fallthrough
	case api.Told:
		m.Ok = false
	}
	return m
}

// empty says whether m has nothing but what every kind has.
func empty(m api.Msg) bool {
	return m.Index == 0 && m.LogTerm == 0 && m.Commit == 0 && m.Round == 0 && !m.Ok &&
		len(m.Entries) == 0 && len(m.Members) == 0 && m.Snap == ""
}
