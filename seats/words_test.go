package seats_test

import (
	"math"
	"math/rand"
	"reflect"
	"slices"
	"testing"

	"tessera/api"
	"tessera/vote"
)

// draws is the same row of numbers in every run, so that a failure comes back.
func draws() *rand.Rand { return rand.New(rand.NewSource(14)) }

const (
	top      = uint64(1) << 62
	topTicks = 1 << 30
)

// The members that tests begin with: 2 of the group 1 2 3 5 in the term 6, behind a snapshot up to 4, with the
// entries 5 to 10, of which all but the last one are committed, the last of these in the term 6.

func follower() api.Peer {
	return api.Peer{
		Id: 2, Members: []int{1, 2, 3, 5}, Term: 6, Vote: 3, Lead: 3,
		Base: 4, BaseTerm: 2, BaseMembers: []int{1, 2, 3}, Snap: "snap",
		Log: []api.Entry{
			{Term: 2, Data: "a"},
			{Term: 3, Kind: api.Seats, Members: []int{2, 3}},
			{Term: 5, Kind: api.Noop},
			{Term: 5, Kind: api.Seats, Members: []int{1, 2, 3, 5}},
			{Term: 6, Kind: api.Noop},
			{Term: 6, Data: "b"},
		},
		Commit: 9, Idle: 2, Wait: 12, Round: 3,
	}
}

func candidate() api.Peer {
	p := follower()
	p.Role, p.Vote, p.Lead, p.Votes = api.Candidate, 2, 0, []int{2, 5}
	return p
}

// leader is sure of its log, and no change is under way at it.
func leader() api.Peer {
	p := follower()
	p.Role, p.Vote, p.Lead, p.Idle = api.Leader, 2, 2, 0
	p.Follows = []api.Follow{{Id: 1, Next: 11, Match: 10}, {Id: 3, Next: 1}, {Id: 5, Next: 7, Match: 3}}
	p.Reads = []api.Read{{Round: 1, Index: 4, Acks: []int{2}}, {Round: 2, Index: 6, Acks: []int{2, 3}}, {Round: 3, Index: 8}}
	return p
}

// fresh is a member as New has it.
func fresh() api.Peer {
	return api.Peer{Id: 2, Members: []int{1, 2, 3}, BaseMembers: []int{1, 2, 3}, Wait: 10}
}

// one is a member alone that leads, with an elder entry and one of its own term, both of which it has committed.
func one() api.Peer {
	return api.Peer{
		Id: 2, Members: []int{2}, BaseMembers: []int{2}, Term: 3, Vote: 2, Role: api.Leader, Lead: 2, Wait: 10,
		Log: []api.Entry{{Term: 1, Data: "a"}, {Term: 3, Kind: api.Noop}}, Commit: 2,
	}
}

// leading is 2 as the leader of whatever members, of whom the others have its log up to there, one behind the other;
// it has four entries of its own term, all but the last one committed.
func leading(members []int, match ...uint64) api.Peer {
	p := api.Peer{
		Id: 2, Members: members, BaseMembers: members, Term: 2, Vote: 2, Role: api.Leader, Lead: 2, Wait: 10,
		Log: []api.Entry{{Term: 2, Kind: api.Noop}, {Term: 2, Data: "x"}, {Term: 2, Data: "y"}, {Term: 2, Data: "z"}}, Commit: 3,
	}
	for _, id := range members {
		if id == 2 {
			continue
		}
		f := api.Follow{Id: id, Next: 1}
		if len(match) > 0 {
			f.Match, match = match[0], match[1:]
			f.Next = f.Match + 1
		}
		p.Follows = append(p.Follows, f)
	}
	return copied(p)
}

// out is a leader that is none of its Members, and no change of them is under way.
func out() api.Peer { return leading([]int{1, 3, 5}, 3, 3, 1) }

// changing is a member of which something is changed by a further entry of other members; it need not have been one of
// those ahead.
func changing(p api.Peer, members ...int) api.Peer {
	return with(p, func(p *api.Peer) { wordsChange(p, members) })
}

// unsure is a leader that has not committed anything of its own term yet.
func unsure() api.Peer {
	return with(leader(), func(p *api.Peer) { p.Commit = 8 })
}

// with is a member of which something is changed.
func with(p api.Peer, to func(p *api.Peer)) api.Peer {
	p = copied(p)
	to(&p)
	return p
}

// roles is one member of each role, by its name.
func roles() map[string]api.Peer {
	return map[string]api.Peer{"a follower": follower(), "a candidate": candidate(), "a leader": leader()}
}

// others is members that do not lead, by their names.
func others() map[string]api.Peer {
	return map[string]api.Peer{
		"a follower": follower(), "a candidate": candidate(), "a new one": fresh(),
		"a follower that is no member":     with(follower(), func(p *api.Peer) { p.Id = 4 }),
		"a follower, unsure":               with(follower(), func(p *api.Peer) { p.Commit = 7 }),
		"a candidate of the highest Round": with(candidate(), func(p *api.Peer) { p.Round = top }),
	}
}

// spoiled is members that may not be, of each role, and a zero one.
func spoiled() []api.Peer {
	return []api.Peer{
		{},
		with(follower(), func(p *api.Peer) { p.Wait = 0 }),
		with(follower(), func(p *api.Peer) { p.Commit = 11 }),
		with(follower(), func(p *api.Peer) { p.Base = math.MaxUint64 }),
		with(follower(), func(p *api.Peer) { p.Reads = leader().Reads }),
		with(candidate(), func(p *api.Peer) { p.Votes = nil }),
		with(leader(), func(p *api.Peer) { p.Follows = nil }),
		with(leader(), func(p *api.Peer) { p.Follows[1].Next = 0 }),
		with(leader(), func(p *api.Peer) { p.Log[5].Term = 7 }),
		with(leader(), func(p *api.Peer) { p.Log[3].Members = nil }),
		with(leader(), func(p *api.Peer) { p.Members = []int{1, 2, 3} }),
		with(leader(), func(p *api.Peer) { p.Reads[2].Index = 10 }),
		with(leader(), func(p *api.Peer) { p.Reads[1].Acks = []int{3, 2} }),
		with(leader(), func(p *api.Peer) { p.Round = top + 1 }),
		with(leader(), func(p *api.Peer) { p.Base = math.MaxUint64 }),
		with(leader(), func(p *api.Peer) { p.Base = math.MaxUint64 - 7 }),
		with(leader(), func(p *api.Peer) { p.Commit = math.MaxUint64 }),
		with(leader(), func(p *api.Peer) { p.Commit = 3 }),
		with(leader(), func(p *api.Peer) { p.Lead = 0 }),
		with(out(), func(p *api.Peer) { p.Wait = 0 }),
		with(one(), func(p *api.Peer) { p.Members, p.BaseMembers = nil, nil }),
	}
}

// copied is a member with lists of its own.
func copied(p api.Peer) api.Peer {
	p.Members, p.BaseMembers, p.Votes = slices.Clone(p.Members), slices.Clone(p.BaseMembers), slices.Clone(p.Votes)
	p.Log, p.Follows, p.Reads = copiedLog(p.Log), slices.Clone(p.Follows), copiedReads(p.Reads)
	return p
}

func copiedLog(l []api.Entry) []api.Entry {
	l = slices.Clone(l)
	for i, e := range l {
		l[i].Members = slices.Clone(e.Members)
	}
	return l
}

func copiedReads(l []api.Read) []api.Read {
	l = slices.Clone(l)
	for i, r := range l {
		l[i].Acks = slices.Clone(r.Acks)
	}
	return l
}

// The calls as the chapter has them, entry by entry by their indices, and number by number of those that members may
// have, done to a member in place.

func lastOf(p api.Peer) uint64 { return p.Base + uint64(len(p.Log)) }

// byIndex is a member's entries by their indices.
func byIndex(p api.Peer) map[uint64]api.Entry {
	out := map[uint64]api.Entry{}
	for i, e := range p.Log {
		out[p.Base+uint64(i)+1] = e
	}
	return out
}

// has says whether a number is among those of a list.
func has(ids []int, id int) bool {
	for _, each := range ids {
		if each == id {
			return true
		}
	}
	return false
}

// most says whether those of the ids that are members are more than half of them.
func most(members, ids []int) bool {
	have := 0
	for _, id := range members {
		if has(ids, id) {
			have++
		}
	}
	return 2*have > len(members)
}

// wordsAdvance asks each index from the last one down who has it.
func wordsAdvance(p *api.Peer) {
	log := byIndex(*p)
	for i := lastOf(*p); i > p.Commit; i-- {
		var have []int
		for _, f := range p.Follows {
			if f.Match >= i {
				have = append(have, f.Id)
			}
		}
		if log[i].Term == p.Term && most(p.Members, append(have, p.Id)) {
			p.Commit = i
			return
		}
	}
}

// wordsChange lays other members behind a leader's log: the entry's index.
func wordsChange(p *api.Peer, members []int) uint64 {
	p.Log = append(p.Log, api.Entry{Term: p.Term, Kind: api.Seats, Members: slices.Clone(members)})
	p.Members = slices.Clone(members)
	index := lastOf(*p)
	before := map[int]api.Follow{}
	for _, f := range p.Follows {
		before[f.Id] = f
	}
	p.Follows = nil
	for id := 1; id <= api.MaxNodes; id++ {
		if !has(members, id) || id == p.Id {
			continue
		}
		f, there := before[id]
		if !there {
			f = api.Follow{Id: id, Next: index, Match: 0}
		}
		p.Follows = append(p.Follows, f)
	}
	wordsAdvance(p)
	return index
}

// wordsTold is who is a member once an Add or a Remove is done, and ErrSeats if that may not be.
func wordsTold(p api.Peer, id int, in bool) ([]int, api.Errno) {
	if id < 1 || id > api.MaxNodes || has(p.Members, id) == in {
		return nil, api.ErrSeats
	}
	var members []int
	for each := 1; each <= api.MaxNodes; each++ {
		if each == id && in || each != id && has(p.Members, each) {
			members = append(members, each)
		}
	}
	if len(members) == 0 {
		return nil, api.ErrSeats
	}
	return members, api.OK
}

func wordsBusy(p api.Peer) bool {
	log := byIndex(p)
	for i := p.Commit + 1; i <= lastOf(p); i++ {
		if p.Role == api.Leader && log[i].Kind == api.Seats {
			return true
		}
	}
	return false
}

func wordsSure(p api.Peer) bool {
	if p.Commit == p.Base {
		return p.BaseTerm == p.Term
	}
	return byIndex(p)[p.Commit].Term == p.Term
}

// wordsAlter is an Add, or (not in) a Remove.
func wordsAlter(p *api.Peer, id int, in bool) (uint64, api.Errno) {
	if p.Role != api.Leader {
		return 0, api.ErrLead
	}
	members, e := wordsTold(*p, id, in)
	if e != api.OK {
		return 0, e
	}
	if wordsBusy(*p) || !wordsSure(*p) {
		return 0, api.ErrBusy
	}
	return wordsChange(p, members), api.OK
}

func wordsQuit(p *api.Peer) bool {
	if p.Role != api.Leader || has(p.Members, p.Id) || wordsBusy(*p) {
		return false
	}
	p.Role, p.Lead, p.Votes, p.Follows, p.Reads = api.Follower, 0, nil, nil, nil
	return true
}

// wordsSend is what a leader sends to a member, entry by entry.
func wordsSend(p api.Peer, f api.Follow) api.Msg {
	m := api.Msg{From: p.Id, To: f.Id, Term: p.Term, Round: p.Round}
	if f.Next-1 < p.Base {
		m.Kind, m.Index, m.LogTerm, m.Members, m.Snap = api.Install, p.Base, p.BaseTerm, p.BaseMembers, p.Snap
		return m
	}
	log := byIndex(p)
	m.Kind, m.Index, m.Commit = api.Lay, f.Next-1, p.Commit
	if m.Index == p.Base {
		m.LogTerm = p.BaseTerm
	} else {
		m.LogTerm = log[m.Index].Term
	}
	for i := f.Next; i <= lastOf(p) && i < f.Next+16; i++ {
		m.Entries = append(m.Entries, log[i])
	}
	return m
}

func wordsRead(p *api.Peer) (uint64, []api.Msg, api.Errno) {
	if p.Role != api.Leader {
		return 0, nil, api.ErrLead
	}
	if !wordsSure(*p) || p.Round == top {
		return 0, nil, api.ErrRetry
	}
	p.Round++
	p.Reads = append(p.Reads, api.Read{Round: p.Round, Index: p.Commit, Acks: []int{p.Id}})
	var sent []api.Msg
	for _, f := range p.Follows {
		sent = append(sent, wordsSend(*p, f))
	}
	return p.Round, sent, api.OK
}

func wordsReady(p *api.Peer) []api.Read {
	var told, left []api.Read
	for _, r := range p.Reads {
		if p.Role == api.Leader && most(p.Members, r.Acks) {
			told = append(told, r)
		} else {
			left = append(left, r)
		}
	}
	p.Reads = left
	return told
}

// equal, equalMsgs and equalReads compare by the library, field by field; a list that has nothing is as none.

func noneOf[T any](l []T) []T {
	if len(l) == 0 {
		return nil
	}
	return l
}

func plain(p api.Peer) api.Peer {
	p = copied(p)
	p.Members, p.BaseMembers, p.Votes = noneOf(p.Members), noneOf(p.BaseMembers), noneOf(p.Votes)
	p.Log, p.Follows, p.Reads = plainLog(p.Log), noneOf(p.Follows), plainReads(p.Reads)
	return p
}

func plainLog(l []api.Entry) []api.Entry {
	l = noneOf(copiedLog(l))
	for i, e := range l {
		l[i].Members = noneOf(e.Members)
	}
	return l
}

func plainReads(l []api.Read) []api.Read {
	l = noneOf(copiedReads(l))
	for i, r := range l {
		l[i].Acks = noneOf(r.Acks)
	}
	return l
}

func equal(a, b api.Peer) bool { return reflect.DeepEqual(plain(a), plain(b)) }

func equalReads(a, b []api.Read) bool { return reflect.DeepEqual(plainReads(a), plainReads(b)) }

func equalMsg(a, b api.Msg) bool {
	a.Members, a.Entries = noneOf(a.Members), plainLog(a.Entries)
	b.Members, b.Entries = noneOf(b.Members), plainLog(b.Entries)
	return reflect.DeepEqual(a, b)
}

func equalMsgs(a, b []api.Msg) bool { return slices.EqualFunc(a, b, equalMsg) }

// follows holds a step to P10.7 and P11.5: what is answered may be, no Term and no Commit falls, a Vote stays within a
// term, and no entry up to Commit that is still there changes.
func follows(t *testing.T, name string, from, got api.Peer, sent []api.Msg) {
	t.Helper()
	if vote.May(got) != api.OK {
		t.Errorf("%s: what is answered may not be: %+v", name, got)
	}
	for _, m := range sent {
		if vote.MayMsg(m) != api.OK && from.Base < top/2 {
			t.Errorf("%s: what is sent may not be: %+v", name, m)
		}
	}
	if got.Commit < from.Commit || got.Base < from.Base || got.Term < from.Term {
		t.Errorf("%s: something fell from %+v to %+v", name, from, got)
	}
	if got.Term == from.Term && got.Vote != from.Vote && from.Vote != 0 {
		t.Errorf("%s: the vote in %d was %d and is %d", name, got.Term, from.Vote, got.Vote)
	}
	was, now := byIndex(from), byIndex(got)
	for i := got.Base + 1; i <= from.Commit; i++ {
		if !reflect.DeepEqual(plainLog([]api.Entry{was[i]}), plainLog([]api.Entry{now[i]})) {
			t.Errorf("%s: what was committed at %d changed from %+v to %+v", name, i, was[i], now[i])
		}
	}
}
