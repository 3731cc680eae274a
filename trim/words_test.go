package trim_test

import (
	"math"
	"math/rand"
	"reflect"
	"slices"
	"testing"

	"tessera/api"
	"tessera/vote"
)

// draws is the same row of numbers in every run, so that a failure comes back.
func draws() *rand.Rand { return rand.New(rand.NewSource(13)) }

const (
	top      = uint64(1) << 62
	topTicks = 1 << 30
	longest  = 1<<20 - 1<<12 // bytes of a snapshot
)

// The members that tests begin with: 2 of the group 1 2 3 5 in the term 6, behind a snapshot up to 4, with the
// entries 5 to 10, of which those up to 8 are committed.

func follower() api.Peer {
	return api.Peer{
		Id: 2, Members: []int{1, 2, 3, 5}, Term: 6, Vote: 3, Lead: 3,
		Base: 4, BaseTerm: 2, BaseMembers: []int{1, 2, 3}, Snap: "snap",
		Log: []api.Entry{
			{Term: 2, Data: "a"},
			{Term: 3, Kind: api.Seats, Members: []int{2, 3}},
			{Term: 5, Kind: api.Noop},
			{Term: 5, Data: "b"},
			{Term: 5, Kind: api.Seats, Members: []int{1, 2, 3, 5}},
			{Term: 6, Kind: api.Noop},
		},
		Commit: 8, Idle: 2, Wait: 12, Round: 3,
	}
}

func candidate() api.Peer {
	p := follower()
	p.Role, p.Vote, p.Lead, p.Votes = api.Candidate, 2, 0, []int{2, 5}
	return p
}

func leader() api.Peer {
	p := follower()
	p.Role, p.Vote, p.Lead, p.Idle = api.Leader, 2, 2, 0
	p.Follows = []api.Follow{{Id: 1, Next: 11, Match: 10}, {Id: 3, Next: 1}, {Id: 5, Next: 7, Match: 3}}
	p.Reads = []api.Read{{Round: 1, Index: 4, Acks: []int{2}}, {Round: 2, Index: 6, Acks: []int{2, 3}}, {Round: 3, Index: 8}}
	return p
}

// fresh is a member as New has it.
func fresh() api.Peer {
	return api.Peer{Id: 2, Members: []int{1, 2, 3}, BaseMembers: []int{1, 2, 3}, Wait: 10}
}

// one is a member alone that leads, with an elder entry and one of its own term, of which it has committed none.
func one() api.Peer {
	return api.Peer{
		Id: 2, Members: []int{2}, BaseMembers: []int{2}, Term: 3, Vote: 2, Role: api.Leader, Lead: 2, Wait: 10,
		Log: []api.Entry{{Term: 1, Data: "a"}, {Term: 3, Kind: api.Noop}},
	}
}

// with is a member of which something is changed.
func with(p api.Peer, to func(p *api.Peer)) api.Peer {
	p = copied(p)
	to(&p)
	return p
}

// withMsg is a message of which something is changed.
func withMsg(m api.Msg, to func(m *api.Msg)) api.Msg {
	m = copiedMsg(m)
	to(&m)
	return m
}

// roles is one member of each role, by its name.
func roles() map[string]api.Peer {
	return map[string]api.Peer{"a follower": follower(), "a candidate": candidate(), "a leader": leader()}
}

// spoiled is members that may not be, of each role, and a zero one.
func spoiled() []api.Peer {
	return []api.Peer{
		{},
		with(follower(), func(p *api.Peer) { p.Wait = 0 }),
		with(follower(), func(p *api.Peer) { p.Commit = 11 }),
		with(follower(), func(p *api.Peer) { p.Base = math.MaxUint64 }),
		with(follower(), func(p *api.Peer) { p.Base = math.MaxUint64 - 2 }),
		with(follower(), func(p *api.Peer) { p.Log, p.Base = nil, 0 }),
		with(candidate(), func(p *api.Peer) { p.Votes = nil }),
		with(candidate(), func(p *api.Peer) { p.Log = p.Log[:2] }),
		with(leader(), func(p *api.Peer) { p.Follows = nil }),
		with(leader(), func(p *api.Peer) { p.Follows[1].Next = 0 }),
		with(leader(), func(p *api.Peer) { p.Log[5].Term = 7 }),
		with(leader(), func(p *api.Peer) { p.Log[1].Members = nil }),
		with(leader(), func(p *api.Peer) { p.Members = []int{1, 2, 3} }),
		with(leader(), func(p *api.Peer) { p.Reads[2].Index = 9 }),
		with(one(), func(p *api.Peer) { p.Members, p.BaseMembers = nil, nil }),
	}
}

// copied is a member with lists of its own.
func copied(p api.Peer) api.Peer {
	p.Members, p.BaseMembers, p.Votes = slices.Clone(p.Members), slices.Clone(p.BaseMembers), slices.Clone(p.Votes)
	p.Log, p.Follows, p.Reads = copiedLog(p.Log), slices.Clone(p.Follows), slices.Clone(p.Reads)
	for i, r := range p.Reads {
		p.Reads[i].Acks = slices.Clone(r.Acks)
	}
	return p
}

func copiedLog(l []api.Entry) []api.Entry {
	l = slices.Clone(l)
	for i, e := range l {
		l[i].Members = slices.Clone(e.Members)
	}
	return l
}

func copiedMsg(m api.Msg) api.Msg {
	m.Members, m.Entries = slices.Clone(m.Members), copiedLog(m.Entries)
	return m
}

// The steps as the chapter has them, entry by entry by their indices, done to a member in place; what is sent is
// answered.

func lastOf(p api.Peer) uint64 { return p.Base + uint64(len(p.Log)) }

// byIndex is a member's entries by their indices.
func byIndex(p api.Peer) map[uint64]api.Entry {
	out := map[uint64]api.Entry{}
	for i, e := range p.Log {
		out[p.Base+uint64(i)+1] = e
	}
	return out
}

// seatedAt is the members as of an index, found from Base on.
func seatedAt(p api.Peer, i uint64) []int {
	out, log := p.BaseMembers, byIndex(p)
	for at := p.Base + 1; at <= i; at++ {
		if log[at].Kind == api.Seats {
			out = log[at].Members
		}
	}
	return slices.Clone(out)
}

// wordsCompact cuts a log off; Members stay.
func wordsCompact(p *api.Peer, to uint64, snap string) {
	log, last := byIndex(*p), lastOf(*p)
	p.BaseMembers = seatedAt(*p, to)
	p.BaseTerm, p.Base, p.Snap = log[to].Term, to, snap
	p.Log = nil
	for i := to + 1; i <= last; i++ {
		p.Log = append(p.Log, log[i])
	}
}

func wordsInstall(p *api.Peer, m api.Msg) []api.Msg {
	say := func(ok bool, index, round uint64) []api.Msg {
		return []api.Msg{{Kind: api.Heard, From: p.Id, To: m.From, Term: p.Term, Ok: ok, Index: index, Round: round}}
	}
	if m.Term > p.Term {
		p.Term, p.Vote, p.Lead = m.Term, 0, 0
		p.Role, p.Votes, p.Follows, p.Reads = api.Follower, nil, nil, nil
	}
	if m.Term < p.Term {
		return say(false, lastOf(*p), 0)
	}
	if p.Role == api.Leader {
		return nil
	}
	p.Role, p.Votes, p.Lead, p.Idle = api.Follower, nil, m.From, 0
	if m.Index <= p.Commit {
		return say(true, p.Commit, m.Round)
	}
	log, last := byIndex(*p), lastOf(*p)
	p.Log = nil
	if own, there := log[m.Index]; there && own.Term == m.LogTerm {
		for i := m.Index + 1; i <= last; i++ {
			p.Log = append(p.Log, log[i])
		}
	}
	p.Base, p.BaseTerm, p.BaseMembers, p.Snap, p.Commit = m.Index, m.LogTerm, m.Members, m.Snap, m.Index
	p.Members = seatedAt(*p, lastOf(*p))
	return say(true, m.Index, m.Round)
}

// wordsAdvance asks each index from the last one down who has it.
func wordsAdvance(p *api.Peer) {
	log := byIndex(*p)
	for i := lastOf(*p); i > p.Commit; i-- {
		have := 0
		for _, id := range p.Members {
			if id == p.Id {
				have++
			}
			for _, f := range p.Follows {
				if f.Id == id && f.Match >= i {
					have++
				}
			}
		}
		if log[i].Term == p.Term && 2*have > len(p.Members) {
			p.Commit = i
			return
		}
	}
}

// wordsVotes stands on layer 10's Take.
func wordsVotes(p *api.Peer, m api.Msg) []api.Msg {
	q, sent, _ := vote.Take(*p, m)
	if *p = q; p.Role == api.Leader {
		wordsAdvance(p)
	}
	return sent
}

// equal, equalMsgs and equalLog compare by the library, field by field; a list that has nothing is as none.

func noneOf[T any](l []T) []T {
	if len(l) == 0 {
		return nil
	}
	return l
}

func plain(p api.Peer) api.Peer {
	p = copied(p)
	p.Members, p.BaseMembers, p.Votes = noneOf(p.Members), noneOf(p.BaseMembers), noneOf(p.Votes)
	p.Log, p.Follows, p.Reads = plainLog(p.Log), noneOf(p.Follows), noneOf(p.Reads)
	for i, r := range p.Reads {
		p.Reads[i].Acks = noneOf(r.Acks)
	}
	return p
}

func plainLog(l []api.Entry) []api.Entry {
	l = noneOf(copiedLog(l))
	for i, e := range l {
		l[i].Members = noneOf(e.Members)
	}
	return l
}

func equal(a, b api.Peer) bool { return reflect.DeepEqual(plain(a), plain(b)) }

func equalLog(a, b []api.Entry) bool { return reflect.DeepEqual(plainLog(a), plainLog(b)) }

func equalMsg(a, b api.Msg) bool {
	a.Members, a.Entries = noneOf(a.Members), plainLog(a.Entries)
	b.Members, b.Entries = noneOf(b.Members), plainLog(b.Entries)
	return reflect.DeepEqual(a, b)
}

func equalMsgs(a, b []api.Msg) bool { return slices.EqualFunc(a, b, equalMsg) }

// stepped holds a step's answer to what is wanted, and to what follows.
func stepped(t *testing.T, name string, from, got api.Peer, sent []api.Msg, e api.Errno, want api.Peer, wantSent []api.Msg) {
	t.Helper()
	if e != api.OK || !equal(got, want) || !equalMsgs(sent, wantSent) {
		t.Errorf("%s: %+v, %+v, %v\n wanted %+v, %+v\n of %+v", name, got, sent, e, want, wantSent, from)
	}
	follows(t, name, from, got, sent)
}

// follows holds a step to P10.7 and P11.5: what is answered may be, no Term and no Commit falls, a Vote stays within a
// term, and no entry up to Commit that is still there changes.
func follows(t *testing.T, name string, from, got api.Peer, sent []api.Msg) {
	t.Helper()
	if vote.May(got) != api.OK {
		t.Errorf("%s: what is answered may not be: %+v", name, got)
	}
	for _, m := range sent {
		if vote.MayMsg(m) != api.OK && from.Base < top/2 {
			t.Errorf("%s: what is sent may not be: %+v", name, m)
		}
	}
	if got.Commit < from.Commit || got.Base < from.Base || got.Term < from.Term {
		t.Errorf("%s: something fell from %+v to %+v", name, from, got)
	}
	if got.Term == from.Term && got.Vote != from.Vote && from.Vote != 0 {
		t.Errorf("%s: the vote in %d was %d and is %d", name, got.Term, from.Vote, got.Vote)
	}
	was, now := byIndex(from), byIndex(got)
	for i := got.Base + 1; i <= from.Commit; i++ {
		if !equalLog([]api.Entry{was[i]}, []api.Entry{now[i]}) {
			t.Errorf("%s: what was committed at %d changed from %+v to %+v", name, i, was[i], now[i])
		}
	}
}

// refused holds a step's answer to an error, with nothing beside it.
func refused(t *testing.T, name string, got api.Peer, sent []api.Msg, e, want api.Errno) {
	t.Helper()
	if e != want || !equal(got, api.Peer{}) || len(sent) != 0 {
		t.Errorf("%s: %+v, %+v, %v, wanted %v", name, got, sent, e, want)
	}
}
