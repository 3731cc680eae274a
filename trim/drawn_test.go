package trim_test

import (
	"fmt"
	"math"
	"math/rand"
	"reflect"
	"slices"
	"strings"
	"testing"

	"tessera/api"
	"tessera/logs"
	"tessera/trim"
	"tessera/vote"
)

// drawnGroup is a group of numbers up to a bound.
func drawnGroup(r *rand.Rand, bound int) []int {
	l := r.Perm(bound)[:1+r.Intn(min(bound, 5))]
	for i := range l {
		l[i]++
	}
	slices.Sort(l)
	return l
}

func drawnEntry(r *rand.Rand, term uint64) api.Entry {
	e := api.Entry{Term: term, Kind: api.EntryKind(r.Intn(3))}
	switch e.Kind {
	case api.Plain:
		e.Data = fmt.Sprint(r.Intn(1000))
	case api.Seats:
		e.Members = drawnGroup(r, 6)
	}
	return e
}

// drawnPeer is a member that may be, of any role, sometimes with very many entries.
func drawnPeer(r *rand.Rand) api.Peer {
	p := api.Peer{Id: 1 + r.Intn(6), BaseMembers: drawnGroup(r, 6), Vote: r.Intn(7), Lead: r.Intn(7)}
	if r.Intn(3) > 0 {
		p.Base, p.BaseTerm, p.Snap = uint64(1+r.Intn(5)), uint64(1+r.Intn(3)), "snap"[:r.Intn(5)]
	}
	p.Members, p.Term = p.BaseMembers, p.BaseTerm
	for range r.Intn([]int{3, 7, 40}[r.Intn(3)]) {
		p.Term = max(1, p.Term+uint64(r.Intn(3)/2))
		p.Log = append(p.Log, drawnEntry(r, p.Term))
		if members := p.Log[len(p.Log)-1].Members; len(members) > 0 {
			p.Members = members
		}
	}
	p.Term += uint64(r.Intn(3) / 2)
	p.Commit = p.Base + uint64(r.Intn(len(p.Log)+1))
	p.Wait, p.Round = 1+r.Intn(12), uint64(r.Intn(6))
	p.Idle = r.Intn(p.Wait + 2)
	switch p.Role = api.Role(r.Intn(3)); {
	case p.Role == api.Candidate && slices.Contains(p.Members, p.Id):
		p.Lead, p.Vote, p.Votes = 0, p.Id, []int{p.Id}
	case p.Role == api.Leader && p.Term > 0:
		drawnLead(r, &p)
	default:
		p.Role = api.Follower
	}
	return copied(p)
}

func drawnLead(r *rand.Rand, p *api.Peer) {
	p.Lead = p.Id
	last := lastOf(*p)
	for _, id := range p.Members {
		if id == p.Id {
			continue
		}
		next := 1 + uint64(r.Intn(int(last)+1))
		if r.Intn(2) == 0 {
			next = last + 1 - uint64(r.Intn(int(min(last, 3))+1))
		}
		match := uint64(r.Intn(int(next)))
		if r.Intn(2) == 0 {
			match = next - 1
		}
		p.Follows = append(p.Follows, api.Follow{Id: id, Next: next, Match: match})
	}
	for round := range p.Round + 1 {
		if r.Intn(3) == 0 {
			p.Reads = append(p.Reads, api.Read{Round: round, Index: uint64(r.Intn(int(p.Commit) + 1)), Acks: drawnGroup(r, 7)})
		}
	}
}

// drawnInstall is an Install to a member that may be or not, near to what the member has.
func drawnInstall(r *rand.Rand, p api.Peer) api.Msg {
	m := api.Msg{Kind: api.Install, From: 1 + (p.Id+r.Intn(6))%7, To: p.Id, Term: max(1, p.Term+uint64(r.Intn(9)/7))}
	if r.Intn(8) == 0 && p.Term > 1 {
		m.Term = p.Term - 1
	}
	m.Index, m.Round = 1+uint64(r.Intn(int(lastOf(p))+3)), uint64(r.Intn(7))
	if r.Intn(2) == 0 {
		m.Index = p.Commit + 1 + uint64(r.Intn(3))
	}
	if e, there := byIndex(p)[m.Index]; there && r.Intn(4) > 0 {
		m.LogTerm = e.Term
	} else {
		m.LogTerm = 1 + uint64(r.Intn(int(m.Term)))
	}
	m.Term = max(m.Term, m.LogTerm)
	m.Members, m.Snap = drawnGroup(r, 7), fmt.Sprint("up to ", m.Index)
	return m
}

// drawnOther is a message of another kind to a member.
func drawnOther(r *rand.Rand, p api.Peer) api.Msg {
	m := api.Msg{Kind: api.MsgKind(1 + r.Intn(4)), From: 1 + (p.Id+r.Intn(6))%7, To: p.Id, Term: max(1, p.Term-uint64(r.Intn(9)/8)*min(p.Term, 1))}
	switch m.Kind {
	case api.Ask, api.Lay:
		m.Index = uint64(r.Intn(int(lastOf(p)) + 2))
		m.LogTerm = min(m.Index, 1+uint64(r.Intn(int(m.Term))))
	case api.Heard:
		m.Index, m.Round = uint64(r.Intn(int(lastOf(p))+2)), uint64(r.Intn(7))
		fallthrough
	case api.Told:
		m.Ok = r.Intn(3) > 0
	}
	if m.Kind == api.Lay {
		m.Commit, m.Round = uint64(r.Intn(9)), uint64(r.Intn(7))
		for range r.Intn(3) {
			m.Entries = append(m.Entries, drawnEntry(r, m.Term))
		}
	}
	return m
}

// spoil changes one thing of what it is handed, a pointer to a member or to a message: a number, a text or a truth to
// another one near a bound, a list by an item more, less or moved; perhaps to what it was.
func spoil(r *rand.Rand, v any) { spoilValue(r, reflect.ValueOf(v).Elem()) }

func spoilValue(r *rand.Rand, v reflect.Value) {
	switch v.Kind() {
	case reflect.Struct:
		spoilValue(r, v.Field(r.Intn(v.NumField())))
	case reflect.Slice:
		spoilList(r, v)
	case reflect.String:
		v.SetString([]string{"", "x"}[r.Intn(2)])
	case reflect.Bool:
		v.SetBool(r.Intn(2) == 0)
	case reflect.Int:
		l := []int64{0, 1, 2, 3, -1, 64, 65, topTicks, topTicks + 1, math.MaxInt64, math.MinInt64, v.Int() - 1, v.Int() + 1}
		v.SetInt(l[r.Intn(len(l))])
	case reflect.Uint8:
		l := []uint64{0, 1, 2, 3, 4, 5, 6, 255}
		v.SetUint(l[r.Intn(len(l))])
	case reflect.Uint64:
		l := []uint64{0, 1, 2, 3, top, top + 1, math.MaxUint64, v.Uint() - 1, v.Uint() + 1}
		v.SetUint(l[r.Intn(len(l))])
	}
}

func spoilList(r *rand.Rand, v reflect.Value) {
	n := v.Len()
	switch {
	case n == 0 || r.Intn(4) == 0:
		item := reflect.New(v.Type().Elem()).Elem()
		if n > 0 && r.Intn(2) == 0 {
			item.Set(v.Index(r.Intn(n)))
		} else {
			spoilValue(r, item)
		}
		v.Set(reflect.Append(v.Slice3(0, n, n), item))
	case r.Intn(4) == 0:
		v.Set(v.Slice(0, n-1))
	case r.Intn(4) == 0:
		reflect.Swapper(v.Interface())(r.Intn(n), r.Intn(n))
	default:
		spoilValue(r, v.Index(r.Intn(n)))
	}
}

// checkStep holds a Step of whatever member and message to the words, and says what came of it.
func checkStep(t *testing.T, p api.Peer, m api.Msg) string {
	t.Helper()
	name := fmt.Sprintf("Step of %+v", m)
	got, sent, e := trim.Step(copied(p), copiedMsg(m))
	if vote.May(p) != api.OK || vote.MayMsg(m) != api.OK || m.To != p.Id {
		refused(t, name, got, sent, e, api.ErrArg)
		return "wrong"
	}
	want := copied(p)
	var wantSent []api.Msg
	switch m.Kind {
	case api.Install:
		wantSent = wordsInstall(&want, copiedMsg(m))
	case api.Ask, api.Told:
		wantSent = wordsVotes(&want, m)
	default:
		want, wantSent, _ = logs.Take(copied(p), copiedMsg(m))
	}
	stepped(t, name, p, got, sent, e, want, wantSent)
	if m.Kind != api.Install {
		return strings.TrimSpace(fmt.Sprint("kind ", m.Kind, " ", map[bool]string{true: "commits"}[got.Commit > p.Commit]))
	}
	switch {
	case len(sent) == 0:
		return "nothing"
	case !sent[0].Ok:
		return "below"
	case got.Base == p.Base:
		return "committed"
	case len(got.Log) > 0:
		return "entries stay"
	case m.Index >= lastOf(p):
		return "nothing behind"
	}
	return "entries go"
}

// checkTake holds a Take of whatever member and message to Step: it is that of an Install, and none of others.
func checkTake(t *testing.T, p api.Peer, m api.Msg) {
	t.Helper()
	got, sent, e := trim.Take(copied(p), copiedMsg(m))
	if m.Kind != api.Install {
		refused(t, fmt.Sprintf("Take of %+v", m), got, sent, e, api.ErrArg)
		return
	}
	want, wantSent, wantE := trim.Step(copied(p), copiedMsg(m))
	if e != wantE || !equal(got, want) || !equalMsgs(sent, wantSent) {
		t.Errorf("Take of %+v by %+v: %+v, %+v, %v", m, p, got, sent, e)
	}
}

// checkCompact holds a Compact of whatever member to the words, and to what P13.4 says of it.
func checkCompact(t *testing.T, p api.Peer, to uint64) string {
	t.Helper()
	got, e := trim.Compact(copied(p), to, "s")
	if vote.May(p) != api.OK || to <= p.Base || to > p.Commit || to > top {
		refused(t, fmt.Sprint("Compact to ", to), got, nil, e, api.ErrArg)
		return "not cut"
	}
	want := copied(p)
	wordsCompact(&want, to, "s")
	stepped(t, fmt.Sprint("Compact to ", to), p, got, nil, e, want, nil)
	asked(t, p, got)
	return "cut"
}

// P13.1 to P13.4: each call with drawn members and messages is what the words make of it; of those that may not be it
// is ErrArg.
func TestDrawn(t *testing.T) {
	r := draws()
	seen := map[string]int{}
	for range 30000 {
		p := drawnPeer(r)
		m := drawnInstall(r, p)
		if r.Intn(3) == 0 {
			m = drawnOther(r, p)
		}
		to := uint64(r.Intn(int(lastOf(p)) + 3))
		if r.Intn(8) == 0 {
			spoil(r, &p)
		}
		if r.Intn(8) == 0 {
			spoil(r, &m)
		}
		if r.Intn(20) == 0 {
			to = []uint64{math.MaxUint64, top, top + 1, p.Base + 1, p.Commit, p.Base, p.Commit + 1}[r.Intn(7)]
		}
		seen[checkStep(t, p, m)]++
		checkTake(t, p, m)
		seen[checkCompact(t, p, to)]++
		if t.Failed() {
			t.FailNow()
		}
	}
	for what, least := range map[string]int{
		"wrong": 1000, "nothing": 1000, "below": 300, "committed": 1000, "entries stay": 500, "entries go": 500, "nothing behind": 500,
		"kind 1": 500, "kind 2": 500, "kind 3": 500, "kind 4": 500, "kind 1 commits": 50, "kind 2 commits": 50,
		"cut": 5000, "not cut": 5000,
	} {
		if seen[what] < least {
			t.Errorf("what is drawn tells little: %s %d times of %v", what, seen[what], seen)
		}
	}
}
