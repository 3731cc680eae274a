package seats_test

import (
	"fmt"
	"math"
	"slices"
	"testing"

	"tessera/api"
	"tessera/logs"
	"tessera/seats"
	"tessera/trim"
	"tessera/vote"
)

// alter is an Add, or (not in) a Remove.
func alter(p api.Peer, id int, in bool) (api.Peer, uint64, api.Errno) {
	if in {
		return seats.Add(p, id)
	}
	return seats.Remove(p, id)
}

// called is a call of alter as a text.
func called(id int, in bool) string {
	if in {
		return fmt.Sprint("Add of ", id)
	}
	return fmt.Sprint("Remove of ", id)
}

// altered holds an Add or a Remove to what is wanted, and to what follows.
func altered(t *testing.T, name string, p api.Peer, id int, in bool, want api.Peer, index uint64) api.Peer {
	t.Helper()
	name = fmt.Sprint(name, ", ", called(id, in))
	got, at, e := alter(p, id, in)
	if e != api.OK || at != index || !equal(got, want) {
		t.Errorf("%s: %+v, %d, %v\n wanted %+v, %d", name, got, at, e, want, index)
	}
	follows(t, name, p, got, nil)
	return got
}

// refused holds an Add or a Remove to an error, with nothing beside it.
func refused(t *testing.T, name string, p api.Peer, id int, in bool, want api.Errno) {
	t.Helper()
	got, at, e := alter(p, id, in)
	if e != want || at != 0 || !equal(got, api.Peer{}) {
		t.Errorf("%s, %s: %+v, %d, %v, wanted %v", name, called(id, in), got, at, e, want)
	}
}

// inWords holds an Add or a Remove of a member that may be to the words: the error.
func inWords(t *testing.T, name string, p api.Peer, id int, in bool) api.Errno {
	t.Helper()
	want := copied(p)
	index, e := wordsAlter(&want, id, in)
	if e != api.OK {
		refused(t, name, p, id, in, e)
		return e
	}
	altered(t, name, p, id, in, want, index)
	return e
}

// heard lets a leader take a Heard, Ok, of its term.
func heard(t *testing.T, p api.Peer, from int, index, round uint64) api.Peer {
	t.Helper()
	p, _, e := trim.Step(p, api.Msg{Kind: api.Heard, From: from, To: p.Id, Term: p.Term, Ok: true, Index: index, Round: round})
	if e != api.OK {
		t.Fatal(e)
	}
	return p
}

// sureOne is the leader 1 of 1 2 3 in the term 1, as messages make it: its Noop is committed.
func sureOne(t *testing.T) api.Peer {
	t.Helper()
	p, _ := vote.New(1, 1, 1, 2, 3)
	p, _, _ = logs.Tick(p, 0)
	p, _, _ = trim.Step(p, api.Msg{Kind: api.Told, From: 2, To: 1, Term: 1, Ok: true})
	if p = heard(t, p, 2, 1, 0); p.Role != api.Leader || p.Commit != 1 {
		t.Fatalf("no leader: %+v", p)
	}
	return p
}

// P14.1: the chapter's examples of changes.
func TestExamples(t *testing.T) {
	p := sureOne(t)
	want := with(p, func(p *api.Peer) {
		p.Members = []int{1, 2, 3, 4}
		p.Log = append(p.Log, api.Entry{Term: 1, Kind: api.Seats, Members: []int{1, 2, 3, 4}})
		p.Follows = []api.Follow{{Id: 2, Next: 2, Match: 1}, {Id: 3, Next: 1}, {Id: 4, Next: 2}}
	})
	q := altered(t, "a leader", p, 4, true, want, 2)
	refused(t, "a change under way", q, 5, true, api.ErrBusy)
	refused(t, "a leader", p, 1, true, api.ErrSeats)
	refused(t, "a leader", p, 9, false, api.ErrSeats)
}

// P14.1: one more is a member from the entry on: those that were there are followed as they were, the new one from that
// entry on, wherever its number stands among the others.
func TestAdd(t *testing.T) {
	was := leader().Follows
	for id, c := range map[int]struct {
		members []int
		follows []api.Follow
	}{
		4:  {[]int{1, 2, 3, 4, 5}, []api.Follow{was[0], was[1], {Id: 4, Next: 11}, was[2]}},
		6:  {[]int{1, 2, 3, 5, 6}, []api.Follow{was[0], was[1], was[2], {Id: 6, Next: 11}}},
		64: {[]int{1, 2, 3, 5, 64}, []api.Follow{was[0], was[1], was[2], {Id: 64, Next: 11}}},
	} {
		want := with(leader(), func(p *api.Peer) {
			p.Members, p.Follows = c.members, c.follows
			p.Log = append(p.Log, api.Entry{Term: 6, Kind: api.Seats, Members: c.members})
		})
		got := altered(t, "a leader", leader(), id, true, want, 11)
		if !seats.Busy(got) || !slices.Equal(vote.Members(got, 11), c.members) || !slices.Equal(vote.Members(got, 10), leader().Members) {
			t.Errorf("Add of %d: %+v", id, got)
		}
	}
	want := with(one(), func(p *api.Peer) {
		p.Members, p.Follows = []int{1, 2}, []api.Follow{{Id: 1, Next: 3}}
		p.Log = append(p.Log, api.Entry{Term: 3, Kind: api.Seats, Members: []int{1, 2}})
	})
	altered(t, "one alone", one(), 1, true, want, 3)
	want = with(out(), func(p *api.Peer) {
		p.Members = []int{1, 2, 3, 5}
		p.Log = append(p.Log, api.Entry{Term: 2, Kind: api.Seats, Members: []int{1, 2, 3, 5}})
	})
	altered(t, "a leader that was none of them, of itself", out(), 2, true, want, 5)
}

// P14.1: one less is a member from the entry on; one that goes is not followed any more, be it who it may.
func TestRemove(t *testing.T) {
	was := leader().Follows
	for id, c := range map[int]struct {
		members []int
		follows []api.Follow
	}{
		1: {[]int{2, 3, 5}, []api.Follow{was[1], was[2]}},
		2: {[]int{1, 3, 5}, was},
		3: {[]int{1, 2, 5}, []api.Follow{was[0], was[2]}},
		5: {[]int{1, 2, 3}, []api.Follow{was[0], was[1]}},
	} {
		want := with(leader(), func(p *api.Peer) {
			p.Members, p.Follows = c.members, c.follows
			p.Log = append(p.Log, api.Entry{Term: 6, Kind: api.Seats, Members: c.members})
			if id == 3 || id == 5 { // of the three that stay 1 and 2 have the entry 10
				p.Commit = 10
			}
		})
		got := altered(t, "a leader", leader(), id, false, want, 11)
		if got.Role != api.Leader || got.Lead != 2 || !seats.Busy(got) {
			t.Errorf("Remove of %d: %+v", id, got)
		}
	}
	want := with(out(), func(p *api.Peer) {
		p.Members, p.Follows = []int{1, 5}, []api.Follow{p.Follows[0], p.Follows[2]}
		p.Log = append(p.Log, api.Entry{Term: 2, Kind: api.Seats, Members: []int{1, 5}})
	})
	altered(t, "a leader that is none of them", out(), 3, false, want, 5)
}

// P14.1: each number by each leader, of groups of which none, some or all that there may be are members.
func TestEach(t *testing.T) {
	all := make([]int, api.MaxNodes)
	for i := range all {
		all[i] = i + 1
	}
	count := map[api.Errno]int{}
	for name, p := range map[string]api.Peer{
		"a leader": leader(), "one alone": one(), "one that is out": out(), "of all": leading(all), "of all but the last one": leading(all[:63]),
		"of all but the first one": leading(all[1:]), "of two": leading([]int{2, 64}), "of two others": leading([]int{1, 64}), "of one other": leading([]int{64}),
		"unsure": unsure(), "busy": changing(leader(), 2, 3, 5), "first": with(leader(), func(p *api.Peer) { p.Id, p.Vote, p.Lead = 1, 1, 1; p.Follows[0].Id = 2 }),
	} {
		for _, in := range []bool{true, false} {
			for id := -2; id <= api.MaxNodes+2; id++ {
				count[inWords(t, name, p, id, in)]++
			}
			for _, id := range []int{math.MaxInt, math.MinInt, math.MaxUint32, 1 << 32, 1<<32 + 4, 256 + 4, -4} {
				refused(t, name, p, id, in, api.ErrSeats)
			}
		}
	}
	if count[api.OK] < 300 || count[api.ErrSeats] < 300 || count[api.ErrBusy] < 100 {
		t.Errorf("what is tried tells little: %v", count)
	}
}

// P14.1: of a group that has all members there may be none more is one; ErrSeats tells so of each number.
func TestAll(t *testing.T) {
	all := make([]int, api.MaxNodes)
	for i := range all {
		all[i] = i + 1
	}
	p := leading(all)
	for id := range 70 {
		refused(t, "of all", p, id, true, api.ErrSeats)
	}
	q, index, e := seats.Remove(p, 64)
	if e != api.OK || index != 5 || !slices.Equal(q.Members, all[:63]) || len(q.Follows) != 62 {
		t.Fatalf("Remove: %+v, %d, %v", q, index, e)
	}
	for id := 1; q.Commit < 5; id++ {
		if id != 2 {
			q = heard(t, q, id, 5, 0)
		}
	}
	q, index, e = seats.Add(q, 64)
	if e != api.OK || index != 6 || !slices.Equal(q.Members, all) || q.Follows[62] != (api.Follow{Id: 64, Next: 6}) {
		t.Errorf("Add: %+v, %d, %v", q, index, e)
	}
}

// P14.1: ErrSeats where nobody would be left, be it the leader itself or another one.
func TestNobodyLeft(t *testing.T) {
	refused(t, "one alone, of itself", one(), 2, false, api.ErrSeats)
	refused(t, "one other, of it", leading([]int{5}), 5, false, api.ErrSeats)
	refused(t, "one other, of itself", leading([]int{5}), 2, false, api.ErrSeats)
	refused(t, "one alone, busy", changing(leading([]int{1, 2}), 1), 1, false, api.ErrSeats)
}

// P14.1: which error comes first: ErrArg, ErrLead, ErrSeats, ErrBusy.
func TestErrors(t *testing.T) {
	ids := []int{-1, 0, 1, 2, 3, 4, 5, 9, 64, 65, math.MaxInt}
	for _, in := range []bool{true, false} {
		for _, id := range ids {
			for _, p := range spoiled() {
				refused(t, fmt.Sprintf("%+v", p), p, id, in, api.ErrArg)
			}
			for name, p := range others() {
				refused(t, name, p, id, in, api.ErrLead)
			}
		}
	}
	for name, p := range map[string]api.Peer{
		"unsure": unsure(), "a change under way": changing(leader(), 1, 2, 3, 5), "both": with(leader(), func(p *api.Peer) { p.Commit, p.Reads = 7, nil }),
		"nothing committed": with(leading([]int{1, 2, 3, 5}), func(p *api.Peer) { p.Commit = 0 }),
	} {
		for _, id := range []int{-1, 0, 1, 2, 3, 5, 65, math.MaxInt} {
			refused(t, name, p, id, true, api.ErrSeats)
		}
		for _, id := range []int{-1, 0, 4, 6, 64, 65, math.MaxInt} {
			refused(t, name, p, id, false, api.ErrSeats)
		}
		for _, id := range []int{4, 6, 63, 64} {
			refused(t, name, p, id, true, api.ErrBusy)
		}
		for _, id := range []int{1, 2, 3, 5} {
			refused(t, name, p, id, false, api.ErrBusy)
		}
	}
}

// P14.1: ErrBusy of a leader that is not sure of its log: the entry at Commit is of an earlier term, be it in the log or
// what a snapshot ends with, or there is none.
func TestUnsure(t *testing.T) {
	for commit := uint64(4); commit <= 10; commit++ {
		for baseTerm := uint64(1); baseTerm <= 2; baseTerm++ {
			p := with(leader(), func(p *api.Peer) { p.Commit, p.BaseTerm, p.Reads = commit, baseTerm, nil })
			want := api.ErrBusy
			if commit >= 9 {
				want = api.OK
			}
			for _, in := range []bool{true, false} {
				if e := inWords(t, fmt.Sprint("Commit ", commit), p, map[bool]int{true: 4, false: 5}[in], in); e != want {
					t.Errorf("Commit %d: %v, wanted %v", commit, e, want)
				}
			}
		}
	}
	for base, want := range map[uint64]api.Errno{5: api.ErrBusy, 8: api.ErrBusy, 9: api.OK, 10: api.OK} {
		p := with(leader(), func(p *api.Peer) { p.Commit, p.Reads = base, nil })
		p, e := trim.Compact(p, base, "s")
		if e != api.OK {
			t.Fatal(e)
		}
		if e := inWords(t, fmt.Sprint("a snapshot up to ", base), p, 4, true); e != want {
			t.Errorf("a snapshot up to Commit %d: %v, wanted %v", base, e, want)
		}
	}
	p := with(one(), func(p *api.Peer) { p.Commit = 0 })
	refused(t, "nothing committed", p, 1, true, api.ErrBusy)
	refused(t, "an elder one committed", with(one(), func(p *api.Peer) { p.Commit = 1 }), 1, true, api.ErrBusy)
}

// P14.1: a change is under way till the entry is committed; right behind that another one may be.
func TestUnderWay(t *testing.T) {
	p := sureOne(t)
	p, index, e := seats.Add(p, 4)
	if e != api.OK || index != 2 {
		t.Fatalf("Add: %d, %v", index, e)
	}
	for _, step := range []func(){
		func() {},
		func() { p = heard(t, p, 2, 1, 0) },
		func() { p = heard(t, p, 2, 2, 0) }, // two of four have it
		func() { p, _, _ = logs.Propose(p, "x") },
		func() { p = heard(t, p, 2, 3, 0) },
	} {
		step()
		refused(t, "under way", p, 5, true, api.ErrBusy)
		refused(t, "under way", p, 4, false, api.ErrBusy)
		if !seats.Busy(p) || p.Commit != 1 {
			t.Errorf("no change under way: %+v", p)
		}
	}
	p = heard(t, p, 4, 2, 0)
	if seats.Busy(p) || p.Commit != 2 {
		t.Errorf("a change under way behind its commit: %+v", p)
	}
	want := with(p, func(p *api.Peer) { wordsChange(p, []int{1, 2, 3}) })
	q := altered(t, "behind its commit", p, 4, false, want, 4)
	if q.Commit != 3 { // which 1 and 2 have, of 1 2 3
		t.Errorf("Commit is %d: %+v", q.Commit, q)
	}
	want = with(p, func(p *api.Peer) { wordsChange(p, []int{1, 2, 3, 4, 5}) })
	altered(t, "behind its commit", p, 5, true, want, 4)
}

// P14.1: once the members are changed the leader advances, by those that are members then; a group of one at once.
func TestAdvances(t *testing.T) {
	for name, c := range map[string]struct {
		p      api.Peer
		id     int
		in     bool
		commit uint64
		busy   bool
	}{
		"two, without the other one":          {leading([]int{1, 2}, 3), 1, false, 5, false},
		"two, without itself":                 {leading([]int{1, 2}, 3), 2, false, 3, true},
		"two, without itself, all there":      {leading([]int{1, 2}, 4), 2, false, 4, true},
		"one, and one more":                   {leading([]int{2}), 1, true, 3, true},
		"four, without one that has less":     {leading([]int{1, 2, 3, 5}, 4, 3, 3), 5, false, 4, true},
		"four, without one that has all":      {leading([]int{1, 2, 3, 5}, 4, 3, 3), 1, false, 3, true},
		"three, with what was had, and more":  {leading([]int{1, 2, 3}, 4, 3), 5, true, 3, true},
		"three, with what all had, and more":  {leading([]int{1, 2, 3}, 4, 4), 5, true, 4, true},
		"two that have all, itself none":      {leading([]int{1, 3, 5}, 4, 4, 1), 5, false, 4, true},
		"one that has all, itself one of two": {leading([]int{1, 3}, 4, 3), 2, true, 4, true},
	} {
		members := slices.Clone(c.p.Members)
		if c.in {
			members = append(members, c.id)
			slices.Sort(members)
		} else {
			members = slices.DeleteFunc(members, func(id int) bool { return id == c.id })
		}
		got := altered(t, name, c.p, c.id, c.in, changing(c.p, members...), 5)
		if got.Commit != c.commit || seats.Busy(got) != c.busy {
			t.Errorf("%s: Commit %d, wanted %d: %+v", name, got.Commit, c.commit, got)
		}
	}
	p := with(one(), func(p *api.Peer) {
		p.Members, p.BaseMembers, p.Follows = []int{1, 2}, []int{1, 2}, []api.Follow{{Id: 1, Next: 1}}
	})
	p, index, e := seats.Remove(p, 1)
	if e != api.OK || index != 3 || p.Commit != 3 || len(p.Follows) != 0 {
		t.Errorf("Remove: %+v, %d, %v", p, index, e)
	}
	if p, index, e = logs.Propose(p, "x"); e != api.OK || index != 4 || p.Commit != 4 {
		t.Errorf("Propose of one alone: %+v, %d, %v", p, index, e)
	}
}

// P14.1: who was removed and is a member again is a new one: nothing is known of it.
func TestAgain(t *testing.T) {
	p := leading([]int{1, 2, 3}, 4, 4)
	p, _, e := seats.Remove(p, 1)
	if e != api.OK || len(p.Follows) != 1 {
		t.Fatalf("Remove: %+v, %v", p, e)
	}
	p = heard(t, p, 1, 5, 0) // which is followed no more
	if !seats.Busy(p) {
		t.Fatalf("who was removed counts: %+v", p)
	}
	p = heard(t, p, 3, 5, 0)
	p, index, e := seats.Add(p, 1)
	if e != api.OK || index != 6 || !slices.Equal(p.Follows, []api.Follow{{Id: 1, Next: 6}, {Id: 3, Next: 6, Match: 5}}) {
		t.Errorf("Add: %+v, %d, %v", p, index, e)
	}
}

// P14.1: a new member is sent the entry that makes it one, says where its log ends, and is given all.
func TestNewMember(t *testing.T) {
	p := sureOne(t)
	p, _, _ = logs.Propose(p, "x")
	p = heard(t, p, 2, 2, 0)
	p, e := trim.Compact(p, 1, "s")
	if e != api.OK {
		t.Fatal(e)
	}
	p, index, e := seats.Add(p, 4)
	if e != api.OK || index != 3 {
		t.Fatalf("Add: %d, %v", index, e)
	}
	n, e := vote.New(4, 10, 1, 2, 3)
	if e != api.OK {
		t.Fatal(e)
	}
	m, e := logs.Send(p, 4)
	sent := []api.Msg{m}
	for range 3 {
		if len(sent) != 1 || e != api.OK {
			t.Fatalf("%+v, %v", sent, e)
		}
		n, sent, _ = trim.Step(n, sent[0])
		p, sent, e = trim.Step(p, sent[0])
	}
	if !slices.Equal(n.Members, []int{1, 2, 3, 4}) || lastOf(n) != 3 || n.Snap != "s" || n.Lead != 1 {
		t.Errorf("the new member: %+v", n)
	}
	if p.Follows[2] != (api.Follow{Id: 4, Next: 4, Match: 3}) || p.Commit != 2 || !seats.Busy(p) {
		t.Errorf("the leader: %+v", p)
	}
	if p = heard(t, p, 3, 3, 0); p.Commit != 3 || seats.Busy(p) {
		t.Errorf("three of four have it: %+v", p)
	}
}

// P14.1: Busy of each role: with an entry of seats at Commit, just above it, and further above.
func TestBusy(t *testing.T) {
	for name, p := range roles() {
		for commit := uint64(4); commit <= 10; commit++ {
			p := with(p, func(p *api.Peer) { p.Commit, p.Reads = commit, nil })
			if vote.May(p) != api.OK {
				t.Fatalf("%+v may not be", p)
			}
			want := name == "a leader" && commit < 8 // where the last entry of seats is
			if got := seats.Busy(p); got != want {
				t.Errorf("%s, Commit %d: %v", name, commit, got)
			}
			p.Log[1], p.Log[3], p.Members = api.Entry{Term: 3}, api.Entry{Term: 5}, p.BaseMembers
			if seats.Busy(p) {
				t.Errorf("%s, Commit %d, without an entry of seats", name, commit)
			}
		}
	}
	for name, p := range others() {
		if seats.Busy(p) {
			t.Errorf("%s is busy", name)
		}
		if p = with(p, func(p *api.Peer) {
			p.Log = append(p.Log, api.Entry{Term: p.Term, Kind: api.Seats, Members: p.Members})
		}); seats.Busy(p) {
			t.Errorf("%s, with an entry of seats, is busy", name)
		}
	}
	same := with(leader(), func(p *api.Peer) {
		p.Log = append(p.Log, api.Entry{Term: 6, Kind: api.Seats, Members: p.Members})
	})
	if !seats.Busy(same) || seats.Busy(one()) || seats.Busy(out()) || seats.Busy(leader()) {
		t.Error("an entry of seats of the same members is a change, too, and without one there is none")
	}
}

// P0.1, P14.1: Busy ends and goes by the data, whatever they are.
func TestBusySpoiled(t *testing.T) {
	for _, base := range []uint64{0, 1, 4, top, math.MaxUint64 - 6, math.MaxUint64 - 1, math.MaxUint64} {
		p := leader()
		p.Base, p.Commit = base, 0
		if want := base > 0 || p.Commit < 4; seats.Busy(p) != want {
			t.Errorf("Base %d, nothing committed: %v", base, !want)
		}
		for _, commit := range []uint64{base, base - 1, base + 3, base + 4, base + 6, base + 7, math.MaxUint64} {
			p.Commit = commit
			want := commit < base || commit-base < 4
			if got := seats.Busy(p); got != want {
				t.Errorf("Base %d, Commit %d: %v", base, commit, got)
			}
		}
	}
	if seats.Busy(api.Peer{}) || seats.Busy(api.Peer{Role: api.Leader}) || seats.Busy(api.Peer{Role: api.Leader, Commit: math.MaxUint64}) {
		t.Error("a change of no log")
	}
	if p := with(leader(), func(p *api.Peer) { p.Role, p.Commit = 3, 4 }); seats.Busy(p) {
		t.Error("a change of one that has no role")
	}
}

// majorities is all majorities of a group, each as bits.
func majorities(members []int) []int {
	var out []int
	for bits := range 1 << len(members) {
		var ids []int
		set := 0
		for i, id := range members {
			if bits>>i&1 == 1 {
				ids = append(ids, id)
				set |= 1 << id
			}
		}
		if vote.Majority(members, ids...) {
			out = append(out, set)
		}
	}
	return out
}

// P14.4: any two majorities of members ahead and behind one Add or Remove have one in common.
func TestMajorities(t *testing.T) {
	changes := 0
	for bits := 1; bits < 1<<6; bits++ {
		var members []int
		for id := 1; id <= 6; id++ {
			if bits>>(id-1)&1 == 1 {
				members = append(members, id)
			}
		}
		before := majorities(members)
		for id := 1; id <= 7; id++ {
			for _, in := range []bool{true, false} {
				q, _, e := alter(leading(members), id, in)
				if e != api.OK {
					continue
				}
				changes++
				for _, b := range majorities(q.Members) {
					for _, a := range before {
						if a&b == 0 {
							t.Fatalf("of %v and %v the majorities %b and %b have none in common", members, q.Members, a, b)
						}
					}
				}
			}
		}
	}
	if changes != 63*7-6 { // each number is added or removed, but of one alone
		t.Errorf("%d changes", changes)
	}
}

// P0.1, P10.7: at the end of what a member may have a change is one still, and may be.
func TestHighest(t *testing.T) {
	p := with(leader(), func(p *api.Peer) {
		p.Base, p.Commit, p.Term, p.Round, p.Idle, p.Wait = top, top+6, top, top, topTicks, topTicks
		p.Log[5].Term, p.Reads = top, nil
		for i := range p.Follows {
			p.Follows[i].Next = top + 7 - uint64(i)
			p.Follows[i].Match = p.Follows[i].Next - 1
		}
	})
	if e := vote.May(p); e != api.OK {
		t.Fatal(e)
	}
	for _, c := range []struct {
		id int
		in bool
	}{{64, true}, {4, true}, {1, false}, {2, false}} {
		if e := inWords(t, "the highest", p, c.id, c.in); e != api.OK {
			t.Errorf("%s: %v", called(c.id, c.in), e)
		}
	}
}
