package seats_test

import (
	"fmt"
	"math"
	"math/rand"
	"reflect"
	"slices"
	"testing"

	"tessera/api"
	"tessera/seats"
	"tessera/vote"
)

// drawnGroup is a group of numbers up to a bound.
func drawnGroup(r *rand.Rand, bound int) []int {
	l := r.Perm(bound)[:1+r.Intn(min(bound, 5))]
	for i := range l {
		l[i]++
	}
	slices.Sort(l)
	return l
}

func drawnEntry(r *rand.Rand, term uint64) api.Entry {
	e := api.Entry{Term: term, Kind: api.EntryKind(r.Intn(3))}
	switch e.Kind {
	case api.Plain:
		e.Data = fmt.Sprint(r.Intn(1000))
	case api.Seats:
		e.Members = drawnGroup(r, 6)
	}
	return e
}

// drawnPeer is a member that may be, of any role, most often a leader, sometimes with very many entries.
func drawnPeer(r *rand.Rand) api.Peer {
	p := api.Peer{Id: 1 + r.Intn(6), BaseMembers: drawnGroup(r, 6), Vote: r.Intn(7), Lead: r.Intn(7)}
	if r.Intn(3) > 0 {
		p.Base, p.BaseTerm, p.Snap = uint64(1+r.Intn(5)), uint64(1+r.Intn(3)), "snap"[:r.Intn(5)]
	}
	p.Members, p.Term = p.BaseMembers, p.BaseTerm
	for range r.Intn([]int{3, 7, 40}[r.Intn(3)]) {
		p.Term = max(1, p.Term+uint64(r.Intn(3)/2))
		p.Log = append(p.Log, drawnEntry(r, p.Term))
		if members := p.Log[len(p.Log)-1].Members; len(members) > 0 {
			p.Members = members
		}
	}
	p.Term += uint64(r.Intn(6) / 5)
	p.Commit = lastOf(p) - uint64(r.Intn(len(p.Log)+1))
	if r.Intn(2) == 0 {
		p.Commit = max(p.Base, lastOf(p)-min(lastOf(p), uint64(r.Intn(3))))
	}
	p.Wait, p.Round = 1+r.Intn(12), uint64(r.Intn(6))
	p.Idle = r.Intn(p.Wait + 2)
	switch role := r.Intn(6); {
	case role == 0 && slices.Contains(p.Members, p.Id):
		p.Role, p.Lead, p.Vote, p.Votes = api.Candidate, 0, p.Id, []int{p.Id}
	case role > 1 && p.Term > 0:
		drawnLead(r, &p)
	}
	return copied(p)
}

func drawnLead(r *rand.Rand, p *api.Peer) {
	p.Role, p.Lead = api.Leader, p.Id
	last := lastOf(*p)
	for _, id := range p.Members {
		if id == p.Id {
			continue
		}
		next := 1 + uint64(r.Intn(int(last)+1))
		if r.Intn(2) == 0 {
			next = last + 1 - uint64(r.Intn(int(min(last, 3))+1))
		}
		match := uint64(r.Intn(int(next)))
		if r.Intn(2) == 0 {
			match = next - 1
		}
		p.Follows = append(p.Follows, api.Follow{Id: id, Next: next, Match: match})
	}
	for round := range p.Round + 1 {
		if r.Intn(3) == 0 {
			p.Reads = append(p.Reads, api.Read{Round: round, Index: uint64(r.Intn(int(p.Commit) + 1)), Acks: drawnGroup(r, 7)})
		}
	}
}

// spoil changes one thing of what it is handed, a pointer to a member: a number, a text or a truth to another one near
// a bound, a list by an item more, less or moved; perhaps to what it was.
func spoil(r *rand.Rand, v any) { spoilValue(r, reflect.ValueOf(v).Elem()) }

func spoilValue(r *rand.Rand, v reflect.Value) {
	switch v.Kind() {
	case reflect.Struct:
		spoilValue(r, v.Field(r.Intn(v.NumField())))
	case reflect.Slice:
		spoilList(r, v)
	case reflect.String:
		v.SetString([]string{"", "x"}[r.Intn(2)])
	case reflect.Int:
		l := []int64{0, 1, 2, 3, -1, 64, 65, topTicks, topTicks + 1, math.MaxInt64, math.MinInt64, v.Int() - 1, v.Int() + 1}
		v.SetInt(l[r.Intn(len(l))])
	case reflect.Uint8:
		l := []uint64{0, 1, 2, 3, 4, 255}
		v.SetUint(l[r.Intn(len(l))])
	case reflect.Uint64:
		l := []uint64{0, 1, 2, 3, top - 1, top, top + 1, math.MaxUint64, v.Uint() - 1, v.Uint() + 1}
		v.SetUint(l[r.Intn(len(l))])
	}
}

func spoilList(r *rand.Rand, v reflect.Value) {
	n := v.Len()
	switch {
	case n == 0 || r.Intn(4) == 0:
		item := reflect.New(v.Type().Elem()).Elem()
		if n > 0 && r.Intn(2) == 0 {
			item.Set(v.Index(r.Intn(n)))
		} else {
			spoilValue(r, item)
		}
		v.Set(reflect.Append(v.Slice3(0, n, n), item))
	case r.Intn(4) == 0:
		v.Set(v.Slice(0, n-1))
	case r.Intn(4) == 0:
		reflect.Swapper(v.Interface())(r.Intn(n), r.Intn(n))
	default:
		spoilValue(r, v.Index(r.Intn(n)))
	}
}

// checkAlter holds an Add or a Remove of whatever member to the words, and says what came of it.
func checkAlter(t *testing.T, p api.Peer, id int, in bool) string {
	t.Helper()
	if vote.May(p) != api.OK {
		refused(t, fmt.Sprintf("%+v", p), copied(p), id, in, api.ErrArg)
		return "changes nothing"
	}
	e := inWords(t, fmt.Sprintf("%+v", p), copied(p), id, in)
	q, _, _ := alter(p, id, in)
	switch {
	case e != api.OK:
		return fmt.Sprint("changes nothing, ", e)
	case q.Commit > p.Commit && seats.Busy(q):
		return "changes and commits"
	case q.Commit > p.Commit:
		return "changes at once"
	}
	return "changes"
}

func checkQuit(t *testing.T, p api.Peer) string {
	t.Helper()
	if vote.May(p) != api.OK {
		got, stood, e := seats.Quit(copied(p))
		if e != api.ErrArg || stood || !equal(got, api.Peer{}) {
			t.Errorf("Quit of %+v: %+v, %v, %v", p, got, stood, e)
		}
		return "quits not"
	}
	want := copied(p)
	stood := wordsQuit(&want)
	quits(t, fmt.Sprintf("%+v", p), copied(p), want, stood)
	return fmt.Sprint("quits ", stood)
}

func checkRead(t *testing.T, p api.Peer) string {
	t.Helper()
	name := fmt.Sprintf("%+v", p)
	if vote.May(p) != api.OK {
		readRefused(t, name, copied(p), api.ErrArg)
		if got, l, e := seats.Ready(copied(p)); e != api.ErrArg || len(l) != 0 || !equal(got, api.Peer{}) {
			t.Errorf("Ready of %s: %+v, %+v, %v", name, got, l, e)
		}
		return "reads not"
	}
	e := readInWords(t, name, copied(p))
	want := copied(p)
	reads := wordsReady(&want)
	readyAs(t, name, copied(p), want, reads)
	return fmt.Sprint("reads ", e, ", some ready ", len(reads) > 0, ", some not ", len(want.Reads) > 0)
}

// P14.1 to P14.3: each call with drawn members is what the words make of it; of those that may not be it is ErrArg.
func TestDrawn(t *testing.T) {
	r := draws()
	seen := map[string]int{}
	for range 25000 {
		p := drawnPeer(r)
		id := r.Intn(9)
		if r.Intn(6) == 0 {
			spoil(r, &p)
		}
		if r.Intn(20) == 0 {
			id = []int{-1, 63, 64, 65, math.MaxInt, math.MinInt}[r.Intn(6)]
		}
		if vote.May(p) == api.OK {
			if got, want := seats.Busy(copied(p)), wordsBusy(p); got != want {
				t.Errorf("Busy of %+v: %v", p, got)
			}
			seen[fmt.Sprint("busy ", wordsBusy(p))]++
		} else {
			seats.Busy(p)
		}
		seen[checkAlter(t, p, id, true)]++
		seen[checkAlter(t, p, id, false)]++
		seen[checkQuit(t, p)]++
		seen[checkRead(t, p)]++
		if t.Failed() {
			t.FailNow()
		}
	}
	for what, least := range map[string]int{
		"busy true": 1000, "busy false": 1000, "quits true": 1000, "quits false": 1000, "quits not": 500, "changes nothing": 500,
		"changes": 1000, "changes and commits": 50, "changes at once": 15,
		"changes nothing, error 140": 1000, "changes nothing, error 141": 1000, "changes nothing, error 142": 1000,
		"reads error 0, some ready true, some not true": 300, "reads error 0, some ready true, some not false": 300,
		"reads error 0, some ready false, some not true": 300, "reads error 0, some ready false, some not false": 300,
		"reads error 7, some ready true, some not true": 300, "reads error 140, some ready false, some not false": 300,
	} {
		if seen[what] < least {
			t.Errorf("what is drawn tells little: %s %d times of %v", what, seen[what], seen)
		}
	}
}
