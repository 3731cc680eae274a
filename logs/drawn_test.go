package logs_test

import (
	"fmt"
	"math"
	"math/rand"
	"reflect"
	"slices"
	"strings"
	"testing"

	"tessera/api"
	"tessera/logs"
	"tessera/vote"
)

// drawnGroup is a group of numbers up to a bound.
func drawnGroup(r *rand.Rand, bound int) []int {
	l := r.Perm(bound)[:1+r.Intn(min(bound, 5))]
	for i := range l {
		l[i]++
	}
	slices.Sort(l)
	return l
}

func drawnEntry(r *rand.Rand, term uint64) api.Entry {
	e := api.Entry{Term: term, Kind: api.EntryKind(r.Intn(3))}
	switch e.Kind {
	case api.Plain:
		e.Data = fmt.Sprint(r.Intn(1000))
	case api.Seats:
		e.Members = drawnGroup(r, 6)
	}
	return e
}

// drawnPeer is a member that may be, of any role, sometimes with very many entries.
func drawnPeer(r *rand.Rand) api.Peer {
	p := api.Peer{Id: 1 + r.Intn(6), BaseMembers: drawnGroup(r, 6), Vote: r.Intn(7), Lead: r.Intn(7)}
	if r.Intn(3) > 0 {
		p.Base, p.BaseTerm, p.Snap = uint64(1+r.Intn(5)), uint64(1+r.Intn(3)), "snap"[:r.Intn(5)]
	}
	p.Members, p.Term = p.BaseMembers, p.BaseTerm
	for range r.Intn([]int{3, 7, 40}[r.Intn(3)]) {
		p.Term = max(1, p.Term+uint64(r.Intn(3)/2))
		p.Log = append(p.Log, drawnEntry(r, p.Term))
		if members := p.Log[len(p.Log)-1].Members; len(members) > 0 {
			p.Members = members
		}
	}
	p.Term += uint64(r.Intn(3) / 2)
	p.Commit = p.Base + uint64(r.Intn(len(p.Log)+1))
	p.Wait, p.Round = 1+r.Intn(12), uint64(r.Intn(6))
	p.Idle = r.Intn(p.Wait + 2)
	switch p.Role = api.Role(r.Intn(3)); {
	case p.Role == api.Candidate && slices.Contains(p.Members, p.Id):
		p.Lead, p.Vote, p.Votes = 0, p.Id, []int{p.Id}
	case p.Role == api.Leader && p.Term > 0:
		drawnLead(r, &p)
	default:
		p.Role = api.Follower
	}
	return copied(p)
}

func drawnLead(r *rand.Rand, p *api.Peer) {
	p.Lead = p.Id
	last := lastOf(*p)
	for _, id := range p.Members {
		if id == p.Id {
			continue
		}
		next := 1 + uint64(r.Intn(int(last)+1))
		if r.Intn(2) == 0 {
			next = last + 1 - uint64(r.Intn(int(min(last, 3))+1))
		}
		match := uint64(r.Intn(int(next)))
		if r.Intn(2) == 0 {
			match = next - 1
		}
		p.Follows = append(p.Follows, api.Follow{Id: id, Next: next, Match: match})
	}
	for round := range p.Round + 1 {
		if r.Intn(3) == 0 {
			p.Reads = append(p.Reads, api.Read{Round: round, Index: uint64(r.Intn(int(p.Commit) + 1)), Acks: drawnGroup(r, 7)})
		}
	}
}

// drawnTo is a message to a member that may be or not, near to what the member has.
func drawnTo(r *rand.Rand, p api.Peer) api.Msg {
	m := api.Msg{Kind: api.Heard, From: 1 + (p.Id+r.Intn(6))%7, To: p.Id, Term: max(1, p.Term+uint64(r.Intn(9)/7))}
	if r.Intn(8) == 0 && p.Term > 1 {
		m.Term = p.Term - 1
	}
	last := lastOf(p)
	m.Index, m.Round = uint64(r.Intn(int(last)+3)), uint64(r.Intn(7))
	if (p.Role == api.Leader) == (r.Intn(8) > 0) {
		m.Ok = r.Intn(3) > 0
		return m
	}
	m.Kind, m.Commit = api.Lay, uint64(r.Intn(int(last)+4))
	own := byIndex(p)
	m.LogTerm = own[m.Index].Term
	if _, there := own[m.Index]; m.Index > 0 && (!there || r.Intn(8) == 0) {
		m.LogTerm = 1 + uint64(r.Intn(int(p.Term)+1))
	}
	term := max(1, m.LogTerm)
	for k := range uint64(r.Intn([]int{3, 7, 18}[r.Intn(3)])) {
		e, there := own[m.Index+k+1]
		if !there || e.Term < term || m.Index+k+1 <= p.Base || r.Intn(6) == 0 {
			e = drawnEntry(r, term+uint64(r.Intn(4)/3))
		}
		term = e.Term
		m.Entries = append(m.Entries, e)
	}
	m.Term = max(m.Term, m.LogTerm, term)
	return copiedMsg(m)
}

// fallen says whether a message from below Base says of what is above it a term below BaseTerm: of that P11.4 and
// P11.5 do not say one thing.
func fallen(p api.Peer, m api.Msg) bool {
	if m.Kind != api.Lay || m.Index >= p.Base || p.Base-m.Index >= uint64(len(m.Entries)) {
		return false
	}
	return m.Entries[p.Base-m.Index].Term < p.BaseTerm
}

// spoil changes one thing of what it is handed, a pointer to a member or to a message: a number, a text or a truth to
// another one near a bound, a list by an item more, less or moved; perhaps to what it was.
func spoil(r *rand.Rand, v any) { spoilValue(r, reflect.ValueOf(v).Elem()) }

func spoilValue(r *rand.Rand, v reflect.Value) {
	switch v.Kind() {
	case reflect.Struct:
		spoilValue(r, v.Field(r.Intn(v.NumField())))
	case reflect.Slice:
		spoilList(r, v)
	case reflect.String:
		v.SetString([]string{"", "x"}[r.Intn(2)])
	case reflect.Bool:
		v.SetBool(r.Intn(2) == 0)
	case reflect.Int:
		l := []int64{0, 1, 2, 3, -1, 64, 65, topTicks, topTicks + 1, math.MaxInt64, math.MinInt64, v.Int() - 1, v.Int() + 1}
		v.SetInt(l[r.Intn(len(l))])
	case reflect.Uint8:
		l := []uint64{0, 1, 2, 3, 4, 5, 6, 255}
		v.SetUint(l[r.Intn(len(l))])
	case reflect.Uint64:
		l := []uint64{0, 1, 2, 3, top, top + 1, math.MaxUint64, v.Uint() - 1, v.Uint() + 1}
		v.SetUint(l[r.Intn(len(l))])
	}
}

func spoilList(r *rand.Rand, v reflect.Value) {
	n := v.Len()
	switch {
	case n == 0 || r.Intn(4) == 0:
		item := reflect.New(v.Type().Elem()).Elem()
		if n > 0 && r.Intn(2) == 0 {
			item.Set(v.Index(r.Intn(n)))
		} else {
			spoilValue(r, item)
		}
		v.Set(reflect.Append(v.Slice3(0, n, n), item))
	case r.Intn(4) == 0:
		v.Set(v.Slice(0, n-1))
	case r.Intn(4) == 0:
		reflect.Swapper(v.Interface())(r.Intn(n), r.Intn(n))
	default:
		spoilValue(r, v.Index(r.Intn(n)))
	}
}

// checkTake holds a Take of whatever member and message to the words, and says what came of it.
func checkTake(t *testing.T, p api.Peer, m api.Msg) string {
	t.Helper()
	got, sent, e := logs.Take(copied(p), copiedMsg(m))
	if vote.May(p) != api.OK || vote.MayMsg(m) != api.OK || m.To != p.Id || m.Kind != api.Lay && m.Kind != api.Heard {
		refused(t, fmt.Sprintf("Take of %+v", m), got, sent, e, api.ErrArg)
		return "wrong"
	}
	if fallen(p, m) {
		follows(t, fmt.Sprintf("Take of %+v", m), p, got, sent)
		return "fallen"
	}
	want := copied(p)
	wantSent := wordsTake(&want, copiedMsg(m))
	stepped(t, fmt.Sprintf("Take of %+v", m), p, got, sent, e, want, wantSent)
	out := fmt.Sprint("kind ", m.Kind, " sent ", len(sent))
	for _, a := range sent {
		out += fmt.Sprint(" ", a.Kind, " ", a.Ok)
	}
	if got.Commit > p.Commit {
		out += ", commits"
	}
	if len(got.Log) < len(p.Log) {
		out += ", shorter"
	}
	return out
}

// checkRest holds the other calls of whatever member to the words.
func checkRest(t *testing.T, p api.Peer, draw int, data string, to int) {
	t.Helper()
	may := vote.May(p) == api.OK
	want := copied(p)
	got, sent, e := logs.Tick(copied(p), draw)
	if may && draw >= 0 {
		wantSent := wordsTick(&want, draw)
		stepped(t, "Tick", p, got, sent, e, want, wantSent)
	} else {
		refused(t, "Tick", got, sent, e, api.ErrArg)
	}
	got, e = logs.Advance(copied(p))
	forward, i, f := logs.Propose(copied(p), data)
	m, g := logs.Send(copied(p), to)
	switch {
	case !may:
		refused(t, "Advance", got, nil, e, api.ErrArg)
		refused(t, "Propose", forward, nil, f, api.ErrArg)
		if g != api.ErrArg || !equalMsg(m, api.Msg{}) || i != 0 || len(logs.Done(p, 0)) != 0 {
			t.Errorf("Send of %+v: %+v, %v", p, m, g)
		}
		return
	case p.Role != api.Leader:
		stepped(t, "Advance", p, got, nil, e, p, nil)
		refused(t, "Propose", forward, nil, f, api.ErrLead)
		if g != api.ErrLead || !equalMsg(m, api.Msg{}) || i != 0 {
			t.Errorf("Send of %+v: %+v, %v", p, m, g)
		}
		return
	}
	want = copied(p)
	wordsAdvance(&want)
	stepped(t, "Advance", p, got, nil, e, want, nil)
	want = proposed(p, data)
	wordsAdvance(&want)
	if stepped(t, "Propose", p, forward, nil, f, want, nil); i != lastOf(p)+1 {
		t.Errorf("Propose of %+v: the index %d", p, i)
	}
	if to == p.Id || !slices.Contains(p.Members, to) {
		if g != api.ErrNone || !equalMsg(m, api.Msg{}) {
			t.Errorf("Send to %d of %+v: %+v, %v", to, p, m, g)
		}
	} else if g != api.OK || !equalMsg(m, wordsSend(p, to)) {
		t.Errorf("Send to %d of %+v: %+v, %v", to, p, m, g)
	}
}

// P11.2 to P11.5: each step of drawn members is what the words make of it; of those that may not be it is ErrArg.
func TestDrawn(t *testing.T) {
	r := draws()
	seen := map[string]int{}
	for range 40000 {
		p := drawnPeer(r)
		m := drawnTo(r, p)
		if r.Intn(6) == 0 {
			spoil(r, &p)
		}
		if r.Intn(6) == 0 {
			spoil(r, &m)
		}
		seen[checkTake(t, p, m)]++
		checkRest(t, p, r.Intn(40)-1, fmt.Sprint(r.Intn(9)), r.Intn(8))
		if t.Failed() {
			t.FailNow()
		}
	}
	for what, least := range map[string]int{
		"wrong": 1000, "fallen": 100,
		"kind 3 sent 0": 100, "kind 3 sent 1 4 true": 1000, "kind 3 sent 1 4 false": 1000,
		"kind 3 sent 1 4 true, commits": 1000, "kind 3 sent 1 4 true, shorter": 50, "kind 3 sent 1 4 true, commits, shorter": 100,
		"kind 4 sent 0": 1000, "kind 4 sent 0, commits": 30,
		"kind 4 sent 1 3 false": 100, "kind 4 sent 1 3 false, commits": 30, "kind 4 sent 1 5 false": 100,
	} {
		if seen[what] < least {
			t.Errorf("what is drawn tells little: %s %d times of %v", what, seen[what], seen)
		}
	}
}

// P11.1: At and Done of drawn members are the entries by their indices.
func TestDrawnAt(t *testing.T) {
	r := draws()
	for range 5000 {
		p := drawnPeer(r)
		own := byIndex(p)
		for i := range lastOf(p) + 3 {
			got, e := logs.At(p, i)
			if want, there := own[i]; i > p.Base && there {
				if e != api.OK || !equalLog([]api.Entry{got}, []api.Entry{want}) {
					t.Fatalf("At(%d) of %+v: %+v, %v", i, p, got, e)
				}
			} else if e != api.ErrNone {
				t.Fatalf("At(%d) of %+v: %+v, %v", i, p, got, e)
			}
			var want []api.Entry
			for k := max(i, p.Base+1); k <= p.Commit; k++ {
				want = append(want, own[k])
			}
			if got := logs.Done(p, i); !equalLog(got, want) {
				t.Fatalf("Done from %d of %+v: %+v", i, p, got)
			}
		}
	}
}

// P0.1: numbers at the end of what a member may have end no call otherwise than the words say.
func TestHighest(t *testing.T) {
	high := func(p api.Peer) api.Peer {
		return with(p, func(p *api.Peer) {
			p.Base, p.Commit, p.Term, p.Round, p.Reads = top, top+1, top, top, nil
			for i := range p.Follows {
				p.Follows[i].Next += top - 4
				p.Follows[i].Match += top - 4
			}
		})
	}
	for name, p := range roles() {
		p = high(p)
		if e := vote.May(p); e != api.OK {
			t.Fatalf("%s: %v", name, e)
		}
		checkRest(t, p, math.MaxInt, strings.Repeat("x", 9), 3)
		checkRest(t, p, 0, "", 5)
		for _, index := range []uint64{0, 1, top - 20, top - 3, top - 1, top} {
			for _, term := range []uint64{2, 3, top} {
				m := layOf(index, min(index, term), math.MaxUint64, entriesOf(term, term, term)...)
				m.Term, m.Round = top, top
				checkTake(t, p, m)
				m = heardOf(3, term == 3, index)
				m.Term, m.Round = top, top
				checkTake(t, p, m)
			}
		}
	}
}
