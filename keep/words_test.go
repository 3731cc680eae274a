package keep_test

import (
	"math/big"
	"math/rand"
	"reflect"
	"slices"
	"testing"

	"tessera/api"
	"tessera/keep"
	"tessera/vote"
)

// draws is the same row of numbers in every run, so that a failure comes back.
func draws() *rand.Rand { return rand.New(rand.NewSource(12)) }

const top = uint64(1) << 62

// The members that tests begin with: 2 of the group 1 2 3 5 in the term 6, behind a snapshot up to 4, with the
// entries 5 to 8, of which 5 is committed.

func follower() api.Peer {
	return api.Peer{
		Id: 2, Members: []int{1, 2, 3, 5}, Term: 6, Vote: 3, Lead: 3,
		Base: 4, BaseTerm: 2, BaseMembers: []int{1, 2, 3}, Snap: "snap",
		Log: []api.Entry{
			{Term: 2, Data: "a"},
			{Term: 3, Kind: api.Seats, Members: []int{1, 2, 3, 5}},
			{Term: 5, Kind: api.Noop},
			{Term: 6, Data: "b"},
		},
		Commit: 5, Idle: 2, Wait: 12, Round: 3,
	}
}

func candidate() api.Peer {
	p := follower()
	p.Role, p.Vote, p.Lead, p.Votes = api.Candidate, 2, 0, []int{2, 5}
	return p
}

func leader() api.Peer {
	p := follower()
	p.Role, p.Vote, p.Lead, p.Idle = api.Leader, 2, 2, 0
	p.Follows = []api.Follow{{Id: 1, Next: 9, Match: 8}, {Id: 3, Next: 1}, {Id: 5, Next: 6, Match: 3}}
	p.Reads = []api.Read{{Round: 1, Index: 4, Acks: []int{2}}, {Round: 2, Index: 4, Acks: []int{2, 3}}, {Round: 3, Index: 5}}
	return p
}

// fresh is a member as New has it.
func fresh() api.Peer {
	return api.Peer{Id: 2, Members: []int{1, 2, 3}, BaseMembers: []int{1, 2, 3}, Wait: 10}
}

// roles is one member of each role, by its name.
func roles() map[string]api.Peer {
	return map[string]api.Peer{"a follower": follower(), "a candidate": candidate(), "a leader": leader(), "a new one": fresh()}
}

// spoiled is members that may not be, of each role, and a zero one.
func spoiled() []api.Peer {
	return []api.Peer{
		{},
		with(follower(), func(p *api.Peer) { p.Wait = 0 }),
		with(follower(), func(p *api.Peer) { p.Commit = 9 }),
		with(follower(), func(p *api.Peer) { p.Base = top + 1 }),
		with(follower(), func(p *api.Peer) { p.Base = ^uint64(0) }),
		with(follower(), func(p *api.Peer) { p.Id = 65 }),
		with(follower(), func(p *api.Peer) { p.Log[3].Term = 7 }),
		with(follower(), func(p *api.Peer) { p.Members = []int{1, 2, 3} }),
		with(follower(), func(p *api.Peer) { p.Votes = []int{2} }),
		with(candidate(), func(p *api.Peer) { p.Votes = nil }),
		with(leader(), func(p *api.Peer) { p.Follows = nil }),
		with(leader(), func(p *api.Peer) { p.Reads[2].Index = 6 }),
		with(fresh(), func(p *api.Peer) { p.Members, p.BaseMembers = nil, nil }),
	}
}

// with is a member of which something is changed.
func with(p api.Peer, to func(p *api.Peer)) api.Peer {
	p = copied(p)
	to(&p)
	return p
}

// copied is a member with lists of its own.
func copied(p api.Peer) api.Peer {
	p.Members, p.BaseMembers, p.Votes = slices.Clone(p.Members), slices.Clone(p.BaseMembers), slices.Clone(p.Votes)
	p.Log, p.Follows, p.Reads = slices.Clone(p.Log), slices.Clone(p.Follows), slices.Clone(p.Reads)
	for i, e := range p.Log {
		p.Log[i].Members = slices.Clone(e.Members)
	}
	for i, r := range p.Reads {
		p.Reads[i].Acks = slices.Clone(r.Acks)
	}
	return p
}

// equal compares by the library, field by field; a list that has nothing is as none.
func equal(a, b api.Peer) bool { return reflect.DeepEqual(trimmed(a), trimmed(b)) }

func trimmed(p api.Peer) api.Peer {
	p = copied(p)
	p.Members, p.BaseMembers, p.Votes = noneOf(p.Members), noneOf(p.BaseMembers), noneOf(p.Votes)
	p.Log, p.Follows, p.Reads = noneOf(p.Log), noneOf(p.Follows), noneOf(p.Reads)
	for i, e := range p.Log {
		p.Log[i].Members = noneOf(e.Members)
	}
	for i, r := range p.Reads {
		p.Reads[i].Acks = noneOf(r.Acks)
	}
	return p
}

func noneOf[T any](l []T) []T {
	if len(l) == 0 {
		return nil
	}
	return l
}

// may says whether p may be.
func may(p api.Peer) bool { return vote.May(p) == api.OK }

// wordsKept takes away what is not kept.
func wordsKept(p api.Peer) api.Peer {
	p = copied(p)
	p.Role, p.Lead, p.Commit, p.Idle, p.Round = api.Follower, 0, p.Base, 0, 0
	p.Votes, p.Follows, p.Reads = nil, nil, nil
	return p
}

// indexed is a record, as plain data: of what its mark does not name there is nothing.
type indexed struct {
	mark    byte
	term    uint64
	vote    int
	base    uint64
	under   uint64 // BaseTerm
	group   []int  // BaseMembers
	snap    string
	index   uint64
	entries []api.Entry
}

func wordsNum(x uint64) string {
	b := new(big.Int).SetUint64(x).Bytes()
	return string(append([]byte{byte(len(b))}, b...))
}

func wordsText(s string) string { return wordsNum(uint64(len(s))) + s }

func wordsIds(l []int) string {
	out := wordsNum(uint64(len(l)))
	for _, id := range l {
		out += wordsNum(uint64(id))
	}
	return out
}

func wordsEntry(e api.Entry) string {
	return wordsNum(e.Term) + string([]byte{byte(e.Kind)}) + wordsText(e.Data) + wordsIds(e.Members)
}

// bytes is the record as the chapter has it.
func (x indexed) bytes() string {
	votes := wordsNum(x.term) + wordsNum(uint64(x.vote))
	base := wordsNum(x.base) + wordsNum(x.under) + wordsIds(x.group) + wordsText(x.snap)
	entries := ""
	for _, e := range x.entries {
		entries += wordsEntry(e)
	}
	return string([]byte{x.mark}) + map[byte]string{
		'N': votes + base + wordsNum(uint64(len(x.entries))) + entries,
		'H': votes,
		'B': base,
		'C': wordsNum(x.index),
		'E': wordsNum(x.index) + entries,
	}[x.mark]
}

// The records by hand, for tests that make their own.

func nOf(p api.Peer) string {
	return indexed{mark: 'N', term: p.Term, vote: p.Vote, base: p.Base, under: p.BaseTerm, group: p.BaseMembers, snap: p.Snap, entries: p.Log}.bytes()
}

func hOf(term uint64, vote int) string { return indexed{mark: 'H', term: term, vote: vote}.bytes() }

func bOf(base, under uint64, snap string, group ...int) string {
	return indexed{mark: 'B', base: base, under: under, group: group, snap: snap}.bytes()
}

func cOf(index uint64) string { return indexed{mark: 'C', index: index}.bytes() }

func eOf(index uint64, e api.Entry) string {
	return indexed{mark: 'E', index: index, entries: []api.Entry{e}}.bytes()
}

// byIndex is a member's entries by their indices.
func byIndex(p api.Peer) map[uint64]api.Entry {
	out := map[uint64]api.Entry{}
	for i, e := range p.Log {
		out[p.Base+uint64(i)+1] = e
	}
	return out
}

func lastOf(p api.Peer) uint64 { return p.Base + uint64(len(p.Log)) }

// wordsDiff has the entries of both by their indices, and goes over these.
func wordsDiff(old, now api.Peer) []string {
	was, is := byIndex(old), byIndex(now)
	f := now.Base + 1
	for {
		a, there := was[f]
		b, too := is[f]
		if !there || !too || wordsEntry(a) != wordsEntry(b) {
			break
		}
		f++
	}
	var out []string
	if old.Term != now.Term || old.Vote != now.Vote {
		out = append(out, hOf(now.Term, now.Vote))
	}
	for i := range was {
		if i >= f {
			out = append(out, cOf(f))
			break
		}
	}
	if b := bOf(now.Base, now.BaseTerm, now.Snap, now.BaseMembers...); b != bOf(old.Base, old.BaseTerm, old.Snap, old.BaseMembers...) {
		out = append(out, b)
	}
	for i := f; i <= lastOf(now); i++ {
		out = append(out, eOf(i, is[i]))
	}
	return out
}

// wordsRead reads numbers in any form, and holds what comes of it to the words: whether these are a record's bytes.
func wordsRead(s string) (x indexed, ok bool) {
	defer func() {
		if recover() != nil { // the bytes ended
			x, ok = indexed{}, false
		}
	}()
	whole := s
	cut := func(n int) string {
		out := s[:n]
		s = s[n:]
		return out
	}
	number := func() (x uint64) {
		for _, b := range []byte(cut(int(cut(1)[0]))) {
			x = x<<8 | uint64(b)
		}
		return x
	}
	text := func() string { return cut(int(number())) }
	ids := func() (l []int) {
		for range number() {
			l = append(l, int(number()))
		}
		return l
	}
	entry := func() {
		x.entries = append(x.entries, api.Entry{Term: number(), Kind: api.EntryKind(cut(1)[0]), Data: text(), Members: ids()})
	}
	x.mark = cut(1)[0]
	if x.mark == 'N' || x.mark == 'H' {
		x.term, x.vote = number(), int(number())
	}
	if x.mark == 'N' || x.mark == 'B' {
		x.base, x.under, x.group, x.snap = number(), number(), ids(), text()
	}
	if x.mark == 'C' || x.mark == 'E' {
		x.index = number()
	}
	if x.mark == 'N' {
		for range number() {
			entry()
		}
	}
	if x.mark == 'E' {
		entry()
	}
	return x, x.bytes() == whole && slices.Contains([]byte("NHBCE"), x.mark)
}

// laid is p with the entries that stand behind its Base without a gap.
func laid(p api.Peer, log map[uint64]api.Entry) api.Peer {
	p.Log, p.Members = nil, p.BaseMembers
	for i := p.Base + 1; ; i++ {
		e, there := log[i]
		if !there {
			return p
		}
		p.Log = append(p.Log, e)
		if e.Kind == api.Seats {
			p.Members = e.Members
		}
	}
}

// wordsDo is p behind a record, if the words allow it there.
func wordsDo(p api.Peer, x indexed) (api.Peer, bool) {
	log := byIndex(p)
	switch x.mark {
	case 'N':
		p.Term, p.Vote, p.Base, p.BaseTerm, p.BaseMembers, p.Snap, p.Commit = x.term, x.vote, x.base, x.under, x.group, x.snap, x.base
		p.Log = x.entries
		log = byIndex(p)
	case 'H':
		p.Term, p.Vote = x.term, x.vote
	case 'B':
		at, stood := log[x.base]
		if x.base == p.Base {
			at, stood = api.Entry{Term: p.BaseTerm}, true
		}
		if x.base < p.Base {
			return p, false
		}
		if !stood || at.Term != x.under {
			clear(log)
		}
		p.Base, p.BaseTerm, p.BaseMembers, p.Snap, p.Commit = x.base, x.under, x.group, x.snap, x.base
	case 'C':
		if _, there := log[x.index]; !there {
			return p, false
		}
		delete(log, x.index) // what is behind it stands no more without a gap
	case 'E':
		if x.index != lastOf(p)+1 {
			return p, false
		}
		log[x.index] = x.entries[0]
	}
	p = laid(p, log)
	return p, may(p)
}

// wordsFold is Fold by the words.
func wordsFold(id, wait int, members []int, records ...string) (api.Peer, int, api.Errno) {
	p := api.Peer{Id: id, Wait: wait, Members: members, BaseMembers: members}
	if !may(p) {
		return api.Peer{}, 0, api.ErrArg
	}
	for i, s := range records {
		x, ok := wordsRead(s)
		if ok {
			p, ok = wordsDo(p, x)
		}
		if !ok {
			return api.Peer{}, i, api.ErrKeep
		}
	}
	return p, len(records), api.OK
}

// folded holds Fold to the words, and says what it answers.
func folded(t *testing.T, name string, p api.Peer, records ...string) (api.Peer, int, api.Errno) {
	t.Helper()
	got, at, e := keep.Fold(p.Id, p.Wait, p.BaseMembers, records...)
	want, place, f := wordsFold(p.Id, p.Wait, p.BaseMembers, records...)
	if !equal(got, want) || at != place || e != f {
		t.Errorf("%s: %+v, %d, %v\n wanted %+v, %d, %v\n of %q", name, got, at, e, want, place, f, records)
	}
	if e == api.OK && !may(got) {
		t.Errorf("%s: what is answered may not be: %+v", name, got)
	}
	return got, at, e
}
