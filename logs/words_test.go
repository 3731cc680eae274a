package logs_test

import (
	"math"
	"math/rand"
	"reflect"
	"slices"
	"testing"

	"tessera/api"
	"tessera/vote"
)

// draws is the same row of numbers in every run, so that a failure comes back.
func draws() *rand.Rand { return rand.New(rand.NewSource(11)) }

const (
	top      = uint64(1) << 62
	topTicks = 1 << 30
)

// The members that tests begin with: 2 of the group 1 2 3 5 in the term 6, behind a snapshot up to 4, with the
// entries 5 to 8, of which 5 is committed.

func follower() api.Peer {
	return api.Peer{
		Id: 2, Members: []int{1, 2, 3, 5}, Term: 6, Vote: 3, Lead: 3,
		Base: 4, BaseTerm: 2, BaseMembers: []int{1, 2, 3}, Snap: "snap",
		Log: []api.Entry{
			{Term: 2, Data: "a"},
			{Term: 3, Kind: api.Seats, Members: []int{1, 2, 3, 5}},
			{Term: 5, Kind: api.Noop},
			{Term: 6, Data: "b"},
		},
		Commit: 5, Idle: 2, Wait: 12, Round: 3,
	}
}

func candidate() api.Peer {
	p := follower()
	p.Role, p.Vote, p.Lead, p.Votes = api.Candidate, 2, 0, []int{2, 5}
	return p
}

func leader() api.Peer {
	p := follower()
	p.Role, p.Vote, p.Lead, p.Idle = api.Leader, 2, 2, 0
	p.Follows = []api.Follow{{Id: 1, Next: 9, Match: 8}, {Id: 3, Next: 1}, {Id: 5, Next: 6, Match: 3}}
	p.Reads = []api.Read{{Round: 1, Index: 4, Acks: []int{2}}, {Round: 2, Index: 4, Acks: []int{2, 3}}, {Round: 3, Index: 5}}
	return p
}

// fresh is a member as New has it.
func fresh() api.Peer {
	return api.Peer{Id: 2, Members: []int{1, 2, 3}, BaseMembers: []int{1, 2, 3}, Wait: 10}
}

// one is a member alone that leads, with an elder entry and one of its own term.
func one() api.Peer {
	return api.Peer{
		Id: 2, Members: []int{2}, BaseMembers: []int{2}, Term: 3, Vote: 2, Role: api.Leader, Lead: 2, Wait: 10,
		Log: []api.Entry{{Term: 1, Data: "a"}, {Term: 2, Kind: api.Noop}},
	}
}

// with is a member of which something is changed.
func with(p api.Peer, to func(p *api.Peer)) api.Peer {
	p = copied(p)
	to(&p)
	return p
}

// roles is one member of each role, by its name.
func roles() map[string]api.Peer {
	return map[string]api.Peer{"a follower": follower(), "a candidate": candidate(), "a leader": leader()}
}

// spoiled is members that may not be, of each role, and a zero one.
func spoiled() []api.Peer {
	return []api.Peer{
		{},
		with(follower(), func(p *api.Peer) { p.Wait = 0 }),
		with(follower(), func(p *api.Peer) { p.Commit = 9 }),
		with(follower(), func(p *api.Peer) { p.Base = math.MaxUint64 }),
		with(candidate(), func(p *api.Peer) { p.Votes = nil }),
		with(leader(), func(p *api.Peer) { p.Follows = nil }),
		with(leader(), func(p *api.Peer) { p.Follows[1].Next = 0 }),
		with(leader(), func(p *api.Peer) { p.Log[3].Term = 7 }),
		with(leader(), func(p *api.Peer) { p.Members = []int{1, 2, 3} }),
		with(leader(), func(p *api.Peer) { p.Reads[2].Index = 6 }),
		with(one(), func(p *api.Peer) { p.Members, p.BaseMembers = nil, nil }),
	}
}

// copied is a member with lists of its own.
func copied(p api.Peer) api.Peer {
	p.Members, p.BaseMembers, p.Votes = slices.Clone(p.Members), slices.Clone(p.BaseMembers), slices.Clone(p.Votes)
	p.Log, p.Follows, p.Reads = copiedLog(p.Log), slices.Clone(p.Follows), slices.Clone(p.Reads)
	for i, r := range p.Reads {
		p.Reads[i].Acks = slices.Clone(r.Acks)
	}
	return p
}

func copiedLog(l []api.Entry) []api.Entry {
	l = slices.Clone(l)
	for i, e := range l {
		l[i].Members = slices.Clone(e.Members)
	}
	return l
}

func copiedMsg(m api.Msg) api.Msg {
	m.Members, m.Entries = slices.Clone(m.Members), copiedLog(m.Entries)
	return m
}

// The steps as the chapter has them, over entries by their indices, done to a member in place; what is sent is answered.

func lastOf(p api.Peer) uint64 { return p.Base + uint64(len(p.Log)) }

// byIndex is a member's entries by their indices; that of Base is known by its term alone.
func byIndex(p api.Peer) map[uint64]api.Entry {
	out := map[uint64]api.Entry{p.Base: {Term: p.BaseTerm}}
	for i, e := range p.Log {
		out[p.Base+uint64(i)+1] = e
	}
	return out
}

// wordsAdvance asks each index from the last one down who has it.
func wordsAdvance(p *api.Peer) {
	log := byIndex(*p)
	for i := lastOf(*p); i > p.Commit; i-- {
		have := 0
		for _, id := range p.Members {
			if id == p.Id {
				have++
			}
			for _, f := range p.Follows {
				if f.Id == id && f.Match >= i {
					have++
				}
			}
		}
		if log[i].Term == p.Term && 2*have > len(p.Members) {
			p.Commit = i
			return
		}
	}
}

func wordsSend(p api.Peer, to int) api.Msg {
	f := p.Follows[slices.IndexFunc(p.Follows, func(f api.Follow) bool { return f.Id == to })]
	if p.Base >= f.Next {
		return api.Msg{
			Kind: api.Install, From: p.Id, To: to, Term: p.Term,
			Index: p.Base, LogTerm: p.BaseTerm, Members: p.BaseMembers, Snap: p.Snap, Round: p.Round,
		}
	}
	log := byIndex(p)
	m := api.Msg{
		Kind: api.Lay, From: p.Id, To: to, Term: p.Term,
		Index: f.Next - 1, LogTerm: log[f.Next-1].Term, Commit: p.Commit, Round: p.Round,
	}
	for i := f.Next; i < f.Next+16; i++ {
		if e, there := log[i]; there {
			m.Entries = append(m.Entries, e)
		}
	}
	return m
}

// wordsTick stands on layer 10's Tick for who does not lead.
func wordsTick(p *api.Peer, draw int) []api.Msg {
	if p.Role != api.Leader {
		q, sent, _ := vote.Tick(*p, draw)
		if *p = q; p.Role == api.Leader {
			wordsAdvance(p)
		}
		return sent
	}
	wordsAdvance(p)
	if p.Idle++; p.Idle <= 2 {
		return nil
	}
	p.Idle = 0
	var sent []api.Msg
	for _, f := range p.Follows {
		sent = append(sent, wordsSend(*p, f.Id))
	}
	return sent
}

func wordsTake(p *api.Peer, m api.Msg) []api.Msg {
	if m.Term > p.Term {
		p.Term, p.Vote, p.Lead = m.Term, 0, 0
		p.Role, p.Votes, p.Follows, p.Reads = api.Follower, nil, nil, nil
	}
	if m.Kind == api.Heard {
		return wordsHeard(p, m)
	}
	return wordsLay(p, m)
}

// wordsLay has the entries that come by their indices, too, so that those at or below Base are never looked for.
func wordsLay(p *api.Peer, m api.Msg) []api.Msg {
	say := func(ok bool, index, round uint64) []api.Msg {
		return []api.Msg{{Kind: api.Heard, From: p.Id, To: m.From, Term: p.Term, Ok: ok, Index: index, Round: round}}
	}
	switch {
	case m.Term < p.Term:
		return say(false, lastOf(*p), 0)
	case p.Role == api.Leader:
		return nil
	}
	p.Role, p.Votes, p.Lead, p.Idle = api.Follower, nil, m.From, 0
	log := byIndex(*p)
	if at, there := log[m.Index]; m.Index >= p.Base && (!there || at.Term != m.LogTerm) {
		return say(false, min(lastOf(*p), m.Index-1), m.Round)
	}
	end := max(p.Base, m.Index+uint64(len(m.Entries)))
	for i := max(p.Base, m.Index) + 1; i <= end; i++ {
		e := m.Entries[i-m.Index-1]
		if own, there := log[i]; there && own.Term == e.Term {
			continue
		}
		if i <= p.Commit {
			return nil
		}
		p.Log = p.Log[:i-p.Base-1]
		for ; i <= end; i++ {
			p.Log = append(p.Log, m.Entries[i-m.Index-1])
		}
	}
	p.Members = p.BaseMembers
	for _, e := range p.Log {
		if e.Kind == api.Seats {
			p.Members = e.Members
		}
	}
	p.Commit = max(p.Commit, min(m.Commit, end))
	return say(true, end, m.Round)
}

func wordsHeard(p *api.Peer, m api.Msg) []api.Msg {
	if p.Role != api.Leader || m.Term != p.Term {
		return nil
	}
	for i := range p.Follows {
		f := &p.Follows[i]
		switch {
		case f.Id != m.From:
			continue
		case !m.Ok:
			f.Next = max(f.Match+1, min(f.Next-1, m.Index+1))
			return []api.Msg{wordsSend(*p, m.From)}
		}
		f.Match = max(f.Match, min(m.Index, lastOf(*p)))
		f.Next = f.Match + 1
		wordsAdvance(p)
		for k, read := range p.Reads {
			if read.Round <= m.Round && !slices.Contains(read.Acks, m.From) {
				p.Reads[k].Acks = append(p.Reads[k].Acks, m.From)
				slices.Sort(p.Reads[k].Acks)
			}
		}
		if f.Next <= lastOf(*p) {
			return []api.Msg{wordsSend(*p, m.From)}
		}
	}
	return nil
}

// equal, equalMsgs and equalLog compare by the library, field by field; a list that has nothing is as none.

func noneOf[T any](l []T) []T {
	if len(l) == 0 {
		return nil
	}
	return l
}

func trimmed(p api.Peer) api.Peer {
	p = copied(p)
	p.Members, p.BaseMembers, p.Votes = noneOf(p.Members), noneOf(p.BaseMembers), noneOf(p.Votes)
	p.Log, p.Follows, p.Reads = trimmedLog(p.Log), noneOf(p.Follows), noneOf(p.Reads)
	for i, r := range p.Reads {
		p.Reads[i].Acks = noneOf(r.Acks)
	}
	return p
}

func trimmedLog(l []api.Entry) []api.Entry {
	l = noneOf(copiedLog(l))
	for i, e := range l {
		l[i].Members = noneOf(e.Members)
	}
	return l
}

func equal(a, b api.Peer) bool { return reflect.DeepEqual(trimmed(a), trimmed(b)) }

func equalLog(a, b []api.Entry) bool { return reflect.DeepEqual(trimmedLog(a), trimmedLog(b)) }

func equalMsg(a, b api.Msg) bool {
	a.Members, a.Entries = noneOf(a.Members), trimmedLog(a.Entries)
	b.Members, b.Entries = noneOf(b.Members), trimmedLog(b.Entries)
	return reflect.DeepEqual(a, b)
}

func equalMsgs(a, b []api.Msg) bool { return slices.EqualFunc(a, b, equalMsg) }

// stepped holds a step's answer to what is wanted, and to P11.5.
func stepped(t *testing.T, name string, from, got api.Peer, sent []api.Msg, e api.Errno, want api.Peer, wantSent []api.Msg) {
	t.Helper()
	if e != api.OK || !equal(got, want) || !equalMsgs(sent, wantSent) {
		t.Errorf("%s: %+v, %+v, %v\n wanted %+v, %+v\n of %+v", name, got, sent, e, want, wantSent, from)
	}
	follows(t, name, from, got, sent)
}

// follows holds a step to P11.5: what is answered may be, Commit does not fall, and no entry up to it changes.
func follows(t *testing.T, name string, from, got api.Peer, sent []api.Msg) {
	t.Helper()
	if vote.May(got) != api.OK {
		t.Errorf("%s: what is answered may not be: %+v", name, got)
	}
	for _, m := range sent {
		if vote.MayMsg(m) != api.OK && from.Base < top/2 {
			t.Errorf("%s: what is sent may not be: %+v", name, m)
		}
	}
	if got.Commit < from.Commit {
		t.Errorf("%s: Commit fell from %d to %d", name, from.Commit, got.Commit)
	}
	if n := from.Commit - from.Base; got.Base != from.Base || uint64(len(got.Log)) < n || !equalLog(got.Log[:n], from.Log[:n]) {
		t.Errorf("%s: what was committed of %+v changed: %+v", name, from, got)
	}
}

// refused holds a step's answer to an error, with nothing beside it.
func refused(t *testing.T, name string, got api.Peer, sent []api.Msg, e, want api.Errno) {
	t.Helper()
	if e != want || !equal(got, api.Peer{}) || len(sent) != 0 {
		t.Errorf("%s: %+v, %+v, %v, wanted %v", name, got, sent, e, want)
	}
}
