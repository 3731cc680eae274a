package seats_test

import (
	"math/rand"
	"slices"
	"testing"

	"tessera/api"
	"tessera/seats"
	"tessera/vote"
)

// settle lets all messages come, in order, those of who is parted lost.
func (g *group) settle(w weather) {
	g.t.Helper()
	for len(g.flight) > 0 {
		s := g.flight[0]
		g.flight = g.flight[1:]
		if m, _ := vote.Read(s); !w.parts(m) {
			g.take(s)
		}
	}
}

// round is a tick of each machine, behind each of which all messages come.
func (g *group) round(r *rand.Rand, w weather) {
	g.t.Helper()
	for i := range g.machines {
		g.tick(i+1, r.Intn(1000))
		g.settle(w)
	}
}

// leads is the member that leads in the last term, 0 if there is none.
func (g *group) leads() int {
	out, term := 0, uint64(0)
	for _, m := range g.machines {
		if m.p.Term > term {
			out, term = 0, m.p.Term
		}
		if m.p.Role == api.Leader && m.p.Term == term {
			out = m.p.Id
		}
	}
	return out
}

// elect goes on till one leads that is sure of its log.
func (g *group) elect(r *rand.Rand, w weather) int {
	g.t.Helper()
	for range 300 {
		if id := g.leads(); id != 0 && !slices.Contains(w.apart, id-1) && wordsSure(g.at(id)) {
			return id
		}
		g.round(r, w)
	}
	g.t.Fatal("none leads")
	return 0
}

// must lets a leader change its members and waits till that is committed.
func (g *group) must(r *rand.Rand, w weather, id, who int, in bool) {
	g.t.Helper()
	if e := g.alter(id, who, in); e != api.OK {
		g.t.Fatalf("%s by %d: %v: %+v", called(who, in), id, e, g.at(id))
	}
	for range 4 * api.Beat {
		if !seats.Busy(g.at(id)) {
			return
		}
		g.round(r, w)
	}
	g.t.Fatalf("%s by %d is under way for good: %+v", called(who, in), id, g.at(id))
}

// agreed says whether all members of one have committed its log, to its end, and have those members.
func (g *group) agreed(id int) bool {
	leader := g.machines[id-1]
	for _, member := range leader.p.Members {
		m := g.machines[member-1]
		if !slices.Equal(m.path, leader.path) || m.p.Commit != lastOf(m.p) || !slices.Equal(m.p.Members, leader.p.Members) {
			return false
		}
	}
	return true
}

// calm is machines that wait as long as ticks make them.
func calm(t *testing.T, r *rand.Rand, size int, first []int) *group {
	return newGroup(t, size, first, func() int { return api.MinWait + r.Intn(api.Spread) })
}

// P14.1, P14.4, P0.7: a group grows from one to seven members and shrinks to one again, the leader staying the same; all
// members have its log, whether what is ahead was cut off or not, and readings are ready at each size. Those that were
// removed are parted, as they do not hear of it.
func TestGroupsGrow(t *testing.T) {
	r := draws()
	for _, cut := range []bool{false, true} {
		g := calm(t, r, 7, []int{4})
		id := g.elect(r, weather{})
		term := g.at(id).Term
		w := weather{}
		for turn, who := range []int{1, 7, 3, 5, 2, 6, 3, 7, 1, 5, 6, 2} {
			if turn >= 6 {
				w.apart = append(w.apart, who-1)
			}
			g.must(r, w, id, who, turn < 6)
			if cut {
				g.compact(id, g.at(id).Commit)
			}
			for range turn {
				g.propose(id)
			}
			if e := g.read(id); e != api.OK {
				t.Fatalf("Read: %v", e)
			}
			g.settle(w)
			if n := g.ready(id); n != 1 {
				t.Errorf("%d readings are ready: %+v", n, g.at(id))
			}
			for range 2 * api.Beat {
				g.round(r, w)
			}
			if p := g.at(id); !g.agreed(id) || p.Role != api.Leader || p.Term != term || len(p.Members) != min(turn+2, 12-turn) {
				t.Fatalf("turn %d: %+v", turn, p)
			}
		}
		if !slices.Equal(g.at(id).Members, []int{4}) || cut != (g.count["installed"] > 0) {
			t.Errorf("%v: %+v", g.count, g.at(id))
		}
	}
}

// P14.2, P14.4, P0.7: a leader that removes itself quits once the others have that; they elect one of them and go on,
// till one alone is left; who left is added again, and has all then.
func TestGroupsLeave(t *testing.T) {
	r := draws()
	g := calm(t, r, 5, []int{1, 2, 3, 4, 5})
	var left []int
	for len(left) < 4 {
		id := g.elect(r, weather{})
		if slices.Contains(left, id) {
			t.Fatalf("%d leads that left: %+v", id, g.at(id))
		}
		g.propose(id)
		if g.alter(id, id, false) != api.OK {
			t.Fatalf("%d cannot leave: %+v", id, g.at(id))
		}
		for turn := 0; !g.quit(id); turn++ {
			if turn > 4*api.Beat {
				t.Fatalf("%d does not quit: %+v", id, g.at(id))
			}
			g.round(r, weather{})
		}
		left = append(left, id)
		for range 4 * (api.MinWait + api.Spread) {
			g.round(r, weather{})
		}
	}
	id := g.elect(r, weather{})
	if !slices.Equal(g.at(id).Members, []int{id}) || g.count["quits"] != 4 {
		t.Fatalf("%v: %+v", g.count, g.at(id))
	}
	g.compact(id, g.at(id).Commit)
	for _, who := range left {
		g.must(r, weather{}, id, who, true)
	}
	for range 2 * api.Beat {
		g.round(r, weather{})
	}
	if !g.agreed(id) || len(g.at(id).Members) != 5 || g.leads() != id {
		t.Errorf("%+v", g.machines)
	}
}

// P14.4, P0.7: who is removed while it is parted does not hear of it; back again it may campaign, but the members go on,
// and it has none of what they commit.
func TestGroupsRemoved(t *testing.T) {
	r := draws()
	g := calm(t, r, 4, []int{1, 2, 3, 4})
	id := g.elect(r, weather{})
	who := id%4 + 1
	w := weather{apart: []int{who - 1}}
	g.must(r, w, id, who, false)
	for range 60 {
		g.round(r, w)
	}
	g.flight = nil
	for range 40 {
		g.round(r, weather{})
	}
	id = g.elect(r, weather{})
	for range 5 {
		g.propose(id)
	}
	for range 4 * api.Beat {
		g.round(r, weather{})
	}
	if id = g.elect(r, weather{}); id == who || has(g.at(id).Members, who) || g.at(who).Commit >= g.at(id).Commit {
		t.Errorf("%d was removed: %+v", who, g.machines)
	}
}

// P14.4: two changes of one group of four by two leaders, each of which knows of its own alone, come to nothing: the
// second leader may not change the members till what it has laid in its own term is at a majority, and then the first
// one is not elected any more.
func TestGroupTwoChanges(t *testing.T) {
	g := newGroup(t, 5, []int{1, 2, 3, 4}, func() int { return 10 })
	g.campaign(1, 1, 2, 3)
	g.reach(1, 2)
	g.reach(1, 3)
	g.reach(1, 4)
	if e := g.alter(1, 5, true); e != api.OK {
		t.Fatal(e)
	}
	g.reach(1, 5) // but none of the others
	g.campaign(2, 2, 3, 4)
	g.reach(2, 3)
	if e := g.alter(2, 1, false); e != api.ErrBusy { // by which 2 and 3 would be a majority
		t.Fatalf("a change by one that is not sure of its log: %v", e)
	}
	g.reach(2, 4)
	if e := g.alter(2, 1, false); e != api.OK {
		t.Fatal(e)
	}
	g.reach(2, 3)
	if seats.Busy(g.at(2)) || !slices.Equal(g.at(2).Members, []int{2, 3, 4}) {
		t.Fatalf("two of three have it: %+v", g.at(2))
	}
	g.stands(1, 3)
	g.pass(1, 4)
	g.pass(4, 1)
	g.pass(1, 5)
	g.pass(5, 1)
	if p := g.at(1); p.Role == api.Leader || len(p.Votes) != 2 {
		t.Errorf("1 leads with a log that has not what was committed: %+v", p)
	}
}

// pass lets just those messages come that are under way from one member to another one.
func (g *group) pass(from, to int) {
	g.t.Helper()
	all := g.flight
	g.flight = nil
	for _, s := range all {
		if m, _ := vote.Read(s); m.From == from && m.To == to {
			g.take(s)
		} else {
			g.flight = append(g.flight, s)
		}
	}
}

// stands lets a member campaign in a term; nothing else is under way then.
func (g *group) stands(id int, term uint64) {
	g.t.Helper()
	p, e := vote.Down(g.at(id), term-1)
	g.do("Down", p, nil, e)
	g.flight = nil
	for range 2 * (api.MinWait + api.Spread) {
		if g.at(id).Term < term {
			g.tick(id, 0)
		}
	}
}

// campaign lets a member lead in a term by the votes of some; no other message comes.
func (g *group) campaign(id int, term uint64, voters ...int) {
	g.t.Helper()
	g.stands(id, term)
	for _, voter := range voters {
		g.pass(id, voter)
		g.pass(voter, id)
	}
	if p := g.at(id); p.Role != api.Leader || p.Term != term {
		g.t.Fatalf("%d does not lead in %d: %+v", id, term, p)
	}
	g.flight = nil
}

// reach lets a leader bring all that it has to a member, and hear of it.
func (g *group) reach(id, to int) {
	g.t.Helper()
	g.flight = nil
	g.send(id, to)
	for range 40 {
		g.pass(id, to)
		g.pass(to, id)
	}
	if !slices.Equal(g.machines[id-1].path, g.machines[to-1].path) {
		g.t.Fatalf("%d does not reach %d: %+v", id, to, g.at(to))
	}
	g.flight = nil
}

// P14.5: a leader that is parted with less than a majority has no reading ready while the others go on, nor when it
// is back, however its members were changed; the one that leads now has.
func TestGroupsReadParted(t *testing.T) {
	r := draws()
	for size := 3; size <= 6; size++ {
		for _, change := range []int{0, -1, 1} { // none, one less, one more, at the leader that is parted
			first := []int{1, 2, 3, 4, 5, 6}[:size]
			g := calm(t, r, size+1, first)
			old := g.elect(r, weather{})
			w := weather{apart: []int{old - 1, size}}
			switch change {
			case -1:
				g.alter(old, old%size+1, false)
			case 1:
				g.alter(old, size+1, true)
			}
			g.settle(w)
			if e := g.read(old); e != api.OK {
				t.Fatalf("Read: %v", e)
			}
			now := g.elect(r, w)
			for range 5 {
				g.propose(now)
			}
			for range 4 * api.Beat {
				g.round(r, w)
				g.read(old)
				g.settle(w)
				if n := g.ready(old); n != 0 {
					t.Fatalf("%d readings are ready: %+v", n, g.at(old))
				}
			}
			if e := g.read(now); e != api.OK {
				t.Fatalf("Read: %v", e)
			}
			g.settle(w)
			if n := g.ready(now); n != 1 {
				t.Errorf("%d readings are ready: %+v", n, g.at(now))
			}
			for range 4 * api.Beat {
				g.round(r, weather{})
				if n := g.ready(old); n != 0 {
					t.Fatalf("%d readings are ready: %+v", n, g.at(old))
				}
			}
			if g.at(old).Role == api.Leader || g.leads() != now {
				t.Errorf("%d leads: %+v", old, g.machines)
			}
		}
	}
}

// P14.5: what others had answered ahead of a reading does not count for it, however late it comes.
func TestGroupReadLate(t *testing.T) {
	g := newGroup(t, 3, []int{1, 2, 3}, func() int { return 10 })
	g.campaign(1, 1, 2)
	g.reach(1, 2)
	g.reach(1, 3)
	for to := 2; to <= 3; to++ {
		g.send(1, to)
		g.pass(1, to) // whose answers stay under way
	}
	late := slices.Clone(g.flight)
	g.campaign(2, 2, 3)
	g.propose(2)
	g.reach(2, 3)
	if e := g.read(1); e != api.OK {
		t.Fatal(e)
	}
	for _, s := range late {
		g.take(s)
	}
	if n := g.ready(1); n != 0 || g.at(1).Role != api.Leader {
		t.Errorf("%d readings are ready: %+v", n, g.at(1))
	}
	g.pass(1, 2)
	g.pass(2, 1)
	if n := g.ready(1); n != 0 || g.at(1).Role == api.Leader {
		t.Errorf("%d readings are ready: %+v", n, g.at(1))
	}
}
