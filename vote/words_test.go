package vote_test

import (
	"fmt"
	"math"
	"math/big"
	"math/rand"
	"reflect"
	"slices"
	"strings"
	"testing"

	"tessera/api"
)

// draws is the same row of numbers in every run, so that a failure comes back.
func draws() *rand.Rand { return rand.New(rand.NewSource(10)) }

const (
	top      = uint64(1) << 62
	topTicks = 1 << 30
)

// The members that tests begin with: 2 of the group 1 2 3 5, behind a snapshot up to 4, with the entries 5, 6, 7.

func follower() api.Peer {
	return api.Peer{
		Id: 2, Members: []int{1, 2, 3, 5}, Term: 6, Vote: 3, Lead: 3,
		Base: 4, BaseTerm: 2, BaseMembers: []int{1, 2, 3}, Snap: "snap",
		Log: []api.Entry{
			{Term: 2, Data: "a"},
			{Term: 3, Kind: api.Seats, Members: []int{1, 2, 3, 5}},
			{Term: 5, Kind: api.Noop},
		},
		Commit: 5, Idle: 2, Wait: 12, Round: 3,
	}
}

func candidate() api.Peer {
	p := follower()
	p.Role, p.Vote, p.Lead, p.Votes = api.Candidate, 2, 0, []int{2, 5}
	return p
}

func leader() api.Peer {
	p := follower()
	p.Role, p.Vote, p.Lead = api.Leader, 2, 2
	p.Follows = []api.Follow{{Id: 1, Next: 8, Match: 7}, {Id: 3, Next: 1}, {Id: 5, Next: 5, Match: 3}}
	p.Reads = []api.Read{{Round: 1, Index: 4, Acks: []int{2}}, {Round: 3, Index: 5, Acks: []int{1, 2}}}
	return p
}

// The messages that tests begin with, one of each kind, with all that it names.

func ask() api.Msg {
	return api.Msg{Kind: api.Ask, From: 1, To: 2, Term: 6, Index: 7, LogTerm: 5}
}

func told() api.Msg { return api.Msg{Kind: api.Told, From: 1, To: 2, Term: 6, Ok: true} }

func lay() api.Msg {
	return api.Msg{
		Kind: api.Lay, From: 1, To: 2, Term: 6, Index: 7, LogTerm: 3, Commit: 9, Round: 4,
		Entries: []api.Entry{
			{Term: 3, Data: "x\x00y"},
			{Term: 5, Kind: api.Noop},
			{Term: 5, Kind: api.Seats, Members: []int{1, 2, 64}},
		},
	}
}

func heard() api.Msg {
	return api.Msg{Kind: api.Heard, From: 1, To: 2, Term: 6, Index: 7, Round: 4, Ok: true}
}

func install() api.Msg {
	return api.Msg{
		Kind: api.Install, From: 1, To: 2, Term: 6, Index: 7, LogTerm: 5, Round: 4, Members: []int{1, 2, 3}, Snap: "snap\xff",
	}
}

// messages is one of each kind, by its name.
func messages() map[string]api.Msg {
	return map[string]api.Msg{"Ask": ask(), "Told": told(), "Lay": lay(), "Heard": heard(), "Install": install()}
}

func groupMay(l []int) bool { return len(l) >= 1 && len(l) <= api.MaxNodes && numbersMay(l) }

func numbersMay(l []int) bool {
	return slices.IsSorted(l) && len(slices.Compact(slices.Clone(l))) == len(l) &&
		!slices.ContainsFunc(l, func(id int) bool { return !numberMay(id) })
}

func numberMay(id int) bool { return id > 0 && id < api.MaxNodes+1 }

func entryMay(e api.Entry) bool {
	switch {
	case e.Term == 0, e.Kind > api.Seats, e.Kind != api.Plain && e.Data != "", e.Kind != api.Seats && len(e.Members) != 0:
		return false
	}
	return e.Kind != api.Seats || groupMay(e.Members)
}

// lastMembers is the members as of the last entry: whatever says some takes the place of what was said ahead.
func lastMembers(p api.Peer) []int {
	out := p.BaseMembers
	for _, e := range p.Log {
		if e.Kind == api.Seats {
			out = e.Members
		}
	}
	return out
}

func lastTerm(p api.Peer) uint64 {
	out := p.BaseTerm
	for _, e := range p.Log {
		out = e.Term
	}
	return out
}

// memberMay is the chapter's words on a member, clause by clause.
func memberMay(p api.Peer) bool {
	follower, candidate, leader := p.Role == api.Follower, p.Role == api.Candidate, p.Role == api.Leader
	last := p.Base + uint64(len(p.Log))
	clauses := []bool{
		follower || candidate || leader,
		numberMay(p.Id),
		groupMay(p.Members), groupMay(p.BaseMembers),
		slices.Equal(p.Members, lastMembers(p)),
		p.Wait >= 1, p.Wait <= topTicks, p.Idle >= 0, p.Idle <= topTicks,
		p.Vote == 0 || numberMay(p.Vote), p.Lead == 0 || numberMay(p.Lead),
		p.Term <= top, p.Base <= top, p.Round <= top,
		p.BaseTerm <= p.Term, p.Base == 0 && p.BaseTerm == 0 || p.Base != 0 && p.BaseTerm != 0,
		p.Commit >= p.Base, p.Commit <= last,
		p.Base != 0 || p.Snap == "",
		candidate || len(p.Votes) == 0,
		leader || len(p.Follows) == 0 && len(p.Reads) == 0,
		!candidate || p.Lead == 0 && p.Vote == p.Id && slices.Contains(p.Members, p.Id) && slices.Contains(p.Votes, p.Id),
		numbersMay(p.Votes),
		!leader || p.Lead == p.Id && p.Term > 0 && p.Term >= lastTerm(p),
	}
	for _, id := range p.Votes {
		clauses = append(clauses, slices.Contains(p.Members, id))
	}
	before := p.BaseTerm
	for _, e := range p.Log {
		clauses = append(clauses, entryMay(e), e.Term <= p.Term, e.Term >= before)
		before = e.Term
	}
	return !slices.Contains(append(clauses, !leader || followsMay(p, last), readsMay(p)), false)
}

func followsMay(p api.Peer, last uint64) bool {
	ids := []int{}
	for _, f := range p.Follows {
		if f.Next < 1 || f.Next > last+1 || f.Match >= f.Next {
			return false
		}
		ids = append(ids, f.Id)
	}
	if slices.Contains(p.Members, p.Id) {
		ids = append(ids, p.Id)
		if n := len(ids) - 1; slices.Contains(ids[:n], p.Id) || !slices.IsSorted(ids[:n]) {
			return false
		}
		slices.Sort(ids)
	}
	return slices.Equal(ids, p.Members)
}

func readsMay(p api.Peer) bool {
	for i, r := range p.Reads {
		if i > 0 && p.Reads[i-1].Round >= r.Round || r.Round > p.Round || r.Index > p.Commit || !numbersMay(r.Acks) {
			return false
		}
	}
	return true
}

// messageMay is the chapter's words on a message: what each kind does not name is told by the fields' names.
func messageMay(m api.Msg) bool {
	named := map[api.MsgKind]string{
		api.Ask:     " Index LogTerm ",
		api.Told:    " Ok ",
		api.Lay:     " Index LogTerm Commit Round Entries ",
		api.Heard:   " Ok Index Round ",
		api.Install: " Index LogTerm Round Members Snap ",
	}[m.Kind]
	if named == "" || !numberMay(m.From) || !numberMay(m.To) || m.From == m.To || m.Term == 0 || m.Term > top {
		return false
	}
	v := reflect.ValueOf(m)
	for i := range v.NumField() {
		name, f := v.Type().Field(i).Name, v.Field(i)
		zero := f.IsZero() || f.Kind() == reflect.Slice && f.Len() == 0
		if !strings.Contains(" Kind From To Term"+named, " "+name+" ") && !zero {
			return false
		}
	}
	if m.Index > top || m.Round > top || m.LogTerm > m.Term || len(m.Entries) > api.MaxLay {
		return false
	}
	before := m.LogTerm
	for _, e := range m.Entries {
		if !entryMay(e) || e.Term > m.Term || e.Term < before {
			return false
		}
		before = e.Term
	}
	switch m.Kind {
	case api.Ask, api.Lay:
		return m.LogTerm == 0 && m.Index == 0 || m.LogTerm != 0 && m.Index != 0
	case api.Install:
		return m.Index != 0 && m.LogTerm != 0 && groupMay(m.Members)
	}
	return true
}

// copied is a member with lists of its own.
func copied(p api.Peer) api.Peer {
	p.Members, p.BaseMembers, p.Votes = slices.Clone(p.Members), slices.Clone(p.BaseMembers), slices.Clone(p.Votes)
	p.Log, p.Follows, p.Reads = copiedLog(p.Log), slices.Clone(p.Follows), slices.Clone(p.Reads)
	for i, r := range p.Reads {
		p.Reads[i].Acks = slices.Clone(r.Acks)
	}
	return p
}

func copiedLog(l []api.Entry) []api.Entry {
	l = slices.Clone(l)
	for i, e := range l {
		l[i].Members = slices.Clone(e.Members)
	}
	return l
}

func copiedMsg(m api.Msg) api.Msg {
	m.Members, m.Entries = slices.Clone(m.Members), copiedLog(m.Entries)
	return m
}

// The steps as the chapter has them, done to a member in place; what is sent is answered.

func wordsDown(p *api.Peer, term uint64) {
	if p.Role == api.Leader {
		p.Lead = 0
	}
	if term > p.Term {
		p.Term, p.Vote, p.Lead = term, 0, 0
	}
	p.Role, p.Votes, p.Follows, p.Reads = api.Follower, nil, nil, nil
}

func wordsWin(p *api.Peer) {
	p.Log = append(p.Log, api.Entry{Term: p.Term, Kind: api.Noop})
	p.Role, p.Lead, p.Votes, p.Idle = api.Leader, p.Id, nil, 2
	p.Follows = nil
	for _, id := range p.Members {
		if id != p.Id {
			p.Follows = append(p.Follows, api.Follow{Id: id, Next: p.Base + uint64(len(p.Log))})
		}
	}
}

func wordsMajority(members []int, ids []int) bool {
	in, out := 0, 0
	for _, id := range members {
		if slices.Contains(ids, id) {
			in++
		} else {
			out++
		}
	}
	return in > out
}

func wordsTick(p *api.Peer, draw int) []api.Msg {
	if p.Role == api.Leader {
		return nil
	}
	if p.Idle != topTicks {
		p.Idle++
	}
	if p.Idle < p.Wait || !slices.Contains(p.Members, p.Id) || p.Term == top {
		return nil
	}
	var sent []api.Msg
	p.Term, p.Role, p.Vote, p.Votes, p.Lead = p.Term+1, api.Candidate, p.Id, []int{p.Id}, 0
	p.Idle, p.Wait = 0, 10+draw%10
	for _, id := range p.Members {
		if id != p.Id {
			sent = append(sent, api.Msg{
				Kind: api.Ask, From: p.Id, To: id, Term: p.Term, Index: p.Base + uint64(len(p.Log)), LogTerm: lastTerm(*p),
			})
		}
	}
	if wordsMajority(p.Members, p.Votes) {
		wordsWin(p)
	}
	return sent
}

func wordsTake(p *api.Peer, m api.Msg) []api.Msg {
	if m.Term > p.Term {
		wordsDown(p, m.Term)
	}
	if m.Kind == api.Told {
		if m.Term == p.Term && p.Role == api.Candidate && m.Ok && slices.Contains(p.Members, m.From) {
			if !slices.Contains(p.Votes, m.From) {
				p.Votes = append(p.Votes, m.From)
				slices.Sort(p.Votes)
			}
			if wordsMajority(p.Members, p.Votes) {
				wordsWin(p)
			}
		}
		return nil
	}
	behind := m.LogTerm < lastTerm(*p) || m.LogTerm == lastTerm(*p) && m.Index < p.Base+uint64(len(p.Log))
	refused := m.Term != p.Term || p.Role != api.Follower || p.Vote != 0 && p.Vote != m.From || behind
	if !refused {
		p.Vote, p.Idle = m.From, 0
	}
	return []api.Msg{{Kind: api.Told, From: p.Id, To: m.From, Term: p.Term, Ok: !refused}}
}

// num and wordsBytes are the chapter's bytes, written another way than the program's.
func num(x uint64) string {
	b := new(big.Int).SetUint64(x).Bytes()
	return string(append([]byte{byte(len(b))}, b...))
}

func text(s string) string { return num(uint64(len(s))) + s }

func ids(l []int) string {
	out := num(uint64(len(l)))
	for _, id := range l {
		out += num(uint64(id))
	}
	return out
}

// parts is a message's bytes, thing by thing.
func parts(m api.Msg) []string {
	ok := map[bool]string{false: "\x00", true: "\x01"}[m.Ok]
	out := []string{
		string([]byte{byte(m.Kind)}), num(uint64(m.From)), num(uint64(m.To)), num(m.Term),
		num(m.Index), num(m.LogTerm), num(m.Commit), num(m.Round), ok, num(uint64(len(m.Entries))),
	}
	for _, e := range m.Entries {
		out = append(out, num(e.Term), string([]byte{byte(e.Kind)}), text(e.Data), ids(e.Members))
	}
	return append(out, ids(m.Members), text(m.Snap))
}

func wordsBytes(m api.Msg) string { return strings.Join(parts(m), "") }

// trimmed is a member, or a message, in which a list that has nothing is none, so that it is compared whole.
func trimmed(p api.Peer) api.Peer {
	p = copied(p)
	p.Members, p.BaseMembers, p.Votes = noneOf(p.Members), noneOf(p.BaseMembers), noneOf(p.Votes)
	p.Log, p.Follows, p.Reads = trimmedLog(p.Log), noneOf(p.Follows), noneOf(p.Reads)
	for i, r := range p.Reads {
		p.Reads[i].Acks = noneOf(r.Acks)
	}
	return p
}

func trimmedLog(l []api.Entry) []api.Entry {
	l = noneOf(copiedLog(l))
	for i, e := range l {
		l[i].Members = noneOf(e.Members)
	}
	return l
}

func trimmedMsg(m api.Msg) api.Msg {
	m.Members, m.Entries = noneOf(slices.Clone(m.Members)), trimmedLog(m.Entries)
	return m
}

func noneOf[T any](l []T) []T {
	if len(l) == 0 {
		return nil
	}
	return l
}

// equal, equalMsg and equalMsgs compare by the library, field by field, whatever the program has for it.
func equal(a, b api.Peer) bool { return reflect.DeepEqual(trimmed(a), trimmed(b)) }

func equalMsg(a, b api.Msg) bool { return reflect.DeepEqual(trimmedMsg(a), trimmedMsg(b)) }

func equalMsgs(a, b []api.Msg) bool { return slices.EqualFunc(a, b, equalMsg) }

func zeroPeer(p api.Peer) bool { return equal(p, api.Peer{}) }

// drawnGroup is a group of numbers up to a bound.
func drawnGroup(r *rand.Rand, bound int) []int {
	l := r.Perm(bound)[:1+r.Intn(min(bound, 5))]
	for i := range l {
		l[i]++
	}
	slices.Sort(l)
	return l
}

// drawnLog is entries whose terms rise from one on.
func drawnLog(r *rand.Rand, term uint64, count int) []api.Entry {
	var l []api.Entry
	for range count {
		term = max(1, term+uint64(r.Intn(3)/2))
		e := api.Entry{Term: term, Kind: api.EntryKind(r.Intn(3))}
		switch e.Kind {
		case api.Plain:
			e.Data = "abc"[:r.Intn(4)]
		case api.Seats:
			e.Members = drawnGroup(r, 6)
		}
		l = append(l, e)
	}
	return l
}

// drawnPeer is a member that may be, of any role.
func drawnPeer(r *rand.Rand) api.Peer {
	p := api.Peer{Id: 1 + r.Intn(6), BaseMembers: drawnGroup(r, 6), Vote: r.Intn(7), Lead: r.Intn(7)}
	if r.Intn(3) > 0 {
		p.Base, p.BaseTerm, p.Snap = uint64(1+r.Intn(5)), uint64(1+r.Intn(3)), "snap"[:r.Intn(5)]
	}
	p.Log = drawnLog(r, p.BaseTerm, r.Intn(6))
	p.Members = slices.Clone(lastMembers(p))
	p.Term = lastTerm(p) + uint64(r.Intn(3))
	p.Commit = p.Base + uint64(r.Intn(len(p.Log)+1))
	p.Wait, p.Round = 1+r.Intn(12), uint64(r.Intn(6))
	p.Idle = r.Intn(p.Wait + 2)
	switch p.Role = api.Role(r.Intn(3)); {
	case p.Role == api.Candidate && slices.Contains(p.Members, p.Id):
		p.Lead, p.Vote, p.Votes = 0, p.Id, nil
		for _, id := range p.Members {
			if id == p.Id || r.Intn(4) == 0 {
				p.Votes = append(p.Votes, id)
			}
		}
	case p.Role == api.Leader && p.Term > 0:
		drawnLead(r, &p)
	default:
		p.Role = api.Follower
	}
	return p
}

func drawnLead(r *rand.Rand, p *api.Peer) {
	p.Lead = p.Id
	for _, id := range p.Members {
		if id != p.Id {
			next := 1 + r.Intn(int(p.Base)+len(p.Log)+1)
			p.Follows = append(p.Follows, api.Follow{Id: id, Next: uint64(next), Match: uint64(r.Intn(next))})
		}
	}
	for round := range p.Round + 1 {
		if r.Intn(3) == 0 {
			p.Reads = append(p.Reads, api.Read{Round: round, Index: uint64(r.Intn(int(p.Commit) + 1)), Acks: drawnGroup(r, 7)})
		}
	}
}

// drawnMsg is a message that may be, of any kind, among the numbers up to 7.
func drawnMsg(r *rand.Rand) api.Msg {
	from := 1 + r.Intn(7)
	m := api.Msg{Kind: api.MsgKind(1 + r.Intn(5)), From: from, To: 1 + (from+r.Intn(6))%7, Term: uint64(1 + r.Intn(8))}
	place := func() {
		if m.Kind == api.Install || r.Intn(4) > 0 {
			m.Index, m.LogTerm = uint64(1+r.Intn(9)), 1+uint64(r.Int63n(int64(m.Term)))
		}
	}
	switch m.Kind {
	case api.Ask:
		place()
	case api.Told:
		m.Ok = r.Intn(3) > 0
	case api.Lay:
		place()
		m.Commit, m.Round = uint64(r.Intn(9)), uint64(r.Intn(9))
		m.Entries = drawnLog(r, m.LogTerm, r.Intn(4))
		if n := len(m.Entries); n > 0 {
			m.Term = max(m.Term, m.Entries[n-1].Term)
		}
	case api.Heard:
		m.Ok, m.Index, m.Round = r.Intn(2) == 0, uint64(r.Intn(9)), uint64(r.Intn(9))
	case api.Install:
		place()
		m.Round, m.Members, m.Snap = uint64(r.Intn(9)), drawnGroup(r, 7), "snap"[:r.Intn(5)]
	}
	return m
}

// spoil changes one thing of what it is handed, a pointer to a member or to a message: a number, a text or a
// truth to another one near a bound, a list by an item more, less or moved; perhaps to what it was.
func spoil(r *rand.Rand, v any) { spoilValue(r, reflect.ValueOf(v).Elem()) }

func spoilValue(r *rand.Rand, v reflect.Value) {
	switch v.Kind() {
	case reflect.Struct:
		spoilValue(r, v.Field(r.Intn(v.NumField())))
	case reflect.Slice:
		spoilList(r, v)
	case reflect.String:
		v.SetString([]string{"", "x"}[r.Intn(2)])
	case reflect.Bool:
		v.SetBool(r.Intn(2) == 0)
	case reflect.Int:
		l := []int64{0, 1, 2, 3, -1, 64, 65, topTicks, topTicks + 1, math.MaxInt64, math.MinInt64, v.Int() - 1, v.Int() + 1}
		v.SetInt(l[r.Intn(len(l))])
	case reflect.Uint8:
		l := []uint64{0, 1, 2, 3, 4, 5, 6, 255}
		v.SetUint(l[r.Intn(len(l))])
	case reflect.Uint64:
		l := []uint64{0, 1, 2, 3, top, top + 1, math.MaxUint64, v.Uint() - 1, v.Uint() + 1}
		v.SetUint(l[r.Intn(len(l))])
	default:
		panic(fmt.Sprint("no such kind: ", v.Kind()))
	}
}

func spoilList(r *rand.Rand, v reflect.Value) {
	n := v.Len()
	switch {
	case n == 0 || r.Intn(4) == 0:
		item := reflect.New(v.Type().Elem()).Elem()
		if n > 0 && r.Intn(2) == 0 {
			item.Set(v.Index(r.Intn(n)))
		} else {
			spoilValue(r, item)
		}
		v.Set(reflect.Append(v.Slice3(0, n, n), item))
	case r.Intn(4) == 0:
		v.Set(v.Slice(0, n-1))
	case r.Intn(4) == 0:
		reflect.Swapper(v.Interface())(r.Intn(n), r.Intn(n))
	default:
		spoilValue(r, v.Index(r.Intn(n)))
	}
}

// The words must hold of what the tests begin with, or they would tell nothing.
func TestWords(t *testing.T) {
	for _, p := range []api.Peer{follower(), candidate(), leader()} {
		if !memberMay(p) {
			t.Errorf("a member that may be: %+v", p)
		}
	}
	for name, m := range messages() {
		if !messageMay(m) {
			t.Errorf("%s: %+v", name, m)
		}
	}
	r := draws()
	roles, kinds := map[api.Role]int{}, map[api.MsgKind]int{}
	for range 5000 {
		p, m := drawnPeer(r), drawnMsg(r)
		roles[p.Role]++
		kinds[m.Kind]++
		if !memberMay(p) {
			t.Fatalf("a drawn member: %+v", p)
		}
		if !messageMay(m) {
			t.Fatalf("a drawn message: %+v", m)
		}
	}
	if len(roles) != 3 || len(kinds) != 5 {
		t.Errorf("what is drawn: %v, %v", roles, kinds)
	}
}
