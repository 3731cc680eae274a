package logs_test

import (
	"fmt"
	"math/rand"
	"slices"
	"testing"

	"tessera/api"
	"tessera/logs"
	"tessera/vote"
)

// tree gives each beginning of a log a number: two logs are the same up to an index, if they have one number there.
type tree map[string]int

// path is the numbers of a log's beginnings, from that of nothing on.
func (tr tree) path(p api.Peer) []int {
	out := []int{0}
	for i, e := range p.Log {
		step := fmt.Sprintf("%d %+v", out[i], e)
		if _, there := tr[step]; !there {
			tr[step] = len(tr) + 1
		}
		out = append(out, tr[step])
	}
	return out
}

// committed is the beginning of a log that was committed, and the least term in which a member knew of it.
type committed struct {
	node int
	term uint64
}

// group is members that begin by New with the same Members, the messages under way among them, and what P11.6 says of
// all that was.
type group struct {
	t      *testing.T
	peers  []api.Peer // the member k at k - 1
	paths  [][]int
	flight []string // as bytes, as a network has them
	tree   tree
	alike  map[[2]uint64]int // by an index and a term: the log up to it
	done   []committed       // by an index
	led    map[uint64]int
	data   int // how many were proposed
	cut    int // how often entries gave way to others
}

func newGroup(t *testing.T, size int, waits func() int) *group {
	g := &group{t: t, tree: tree{}, alike: map[[2]uint64]int{}, done: []committed{{}}, led: map[uint64]int{}}
	var members []int
	for id := range size {
		members = append(members, id+1)
	}
	for _, id := range members {
		p, e := vote.New(id, waits(), members...)
		if e != api.OK {
			t.Fatal(e)
		}
		g.peers, g.paths = append(g.peers, p), append(g.paths, []int{0})
	}
	return g
}

// do puts a step's answer in the place of a member, and holds all of them to the promises.
func (g *group) do(step string, now api.Peer, sent []api.Msg, e api.Errno) {
	g.t.Helper()
	was := g.peers[now.Id-1]
	if e != api.OK {
		g.t.Fatalf("%s: %v", step, e)
	}
	follows(g.t, step, was, now, sent)
	before, path := g.paths[now.Id-1], g.tree.path(now)
	if n := min(len(before), len(path)); len(path) < len(before) || !slices.Equal(before[:n], path[:n]) {
		g.cut++
	}
	g.peers[now.Id-1], g.paths[now.Id-1] = now, path
	g.checkAlike(step, now, path)
	g.checkDone(step, now, path)
	for _, p := range g.peers {
		g.checkLeader(step, p)
	}
	for _, m := range sent {
		s, e := vote.Bytes(m)
		if e != api.OK {
			g.t.Fatalf("%s: %+v: %v", step, m, e)
		}
		g.flight = append(g.flight, s)
	}
	if g.t.Failed() {
		g.t.FailNow()
	}
}

// checkAlike: two logs that have an entry of one index and one term, whenever that was, are the same up to it.
func (g *group) checkAlike(step string, p api.Peer, path []int) {
	g.t.Helper()
	for i, e := range p.Log {
		at := [2]uint64{uint64(i + 1), e.Term}
		if node, there := g.alike[at]; there && node != path[i+1] {
			g.t.Fatalf("%s: two logs have an entry %d of %d, and are not the same up to it: %+v", step, at[0], at[1], p)
		}
		g.alike[at] = path[i+1]
	}
}

// checkDone: two members' committed entries of one index are the same, whenever they were.
func (g *group) checkDone(step string, p api.Peer, path []int) {
	g.t.Helper()
	for i := uint64(1); i <= p.Commit; i++ {
		if i == uint64(len(g.done)) {
			g.done = append(g.done, committed{path[i], p.Term})
		}
		if g.done[i].node != path[i] {
			g.t.Fatalf("%s: two entries %d are committed: %+v", step, i, p)
		}
		g.done[i].term = min(g.done[i].term, p.Term)
	}
}

// checkLeader: one leads in a term; what was committed in an earlier one is in its log.
func (g *group) checkLeader(step string, p api.Peer) {
	g.t.Helper()
	if p.Role != api.Leader {
		return
	}
	if was := g.led[p.Term]; was != 0 && was != p.Id {
		g.t.Fatalf("%s: %d and %d lead in %d", step, was, p.Id, p.Term)
	}
	g.led[p.Term] = p.Id
	path := g.paths[p.Id-1]
	for i, c := range g.done {
		if c.term < p.Term && (i >= len(path) || path[i] != c.node) {
			g.t.Fatalf("%s: the leader %d of %d has not what was committed at %d in %d: %+v", step, p.Id, p.Term, i, c.term, p)
		}
	}
}

func (g *group) tick(id, draw int) {
	g.t.Helper()
	want := copied(g.peers[id-1])
	wantSent := wordsTick(&want, draw)
	p, sent, e := logs.Tick(g.peers[id-1], draw)
	stepped(g.t, fmt.Sprint("Tick of ", id), g.peers[id-1], p, sent, e, want, wantSent)
	g.do(fmt.Sprint("Tick of ", id), p, sent, e)
}

// propose hands one data of its own: whether it leads.
func (g *group) propose(id int) bool {
	g.t.Helper()
	p, i, e := logs.Propose(g.peers[id-1], fmt.Sprint("command ", g.data+1))
	if g.peers[id-1].Role != api.Leader {
		if e != api.ErrLead {
			g.t.Fatalf("Propose of %+v: %v", g.peers[id-1], e)
		}
		return false
	}
	if g.data++; i != uint64(len(g.peers[id-1].Log)+1) {
		g.t.Fatalf("Propose: the index %d", i)
	}
	g.do(fmt.Sprint("Propose of ", id), p, nil, e)
	return true
}

func (g *group) advance(id int) {
	g.t.Helper()
	p, e := logs.Advance(g.peers[id-1])
	g.do(fmt.Sprint("Advance of ", id), p, nil, e)
}

// send lets a leader send to one of the others, whatever its ticks say.
func (g *group) send(id, to int) {
	g.t.Helper()
	if m, e := logs.Send(g.peers[id-1], to); e == api.OK {
		g.do(fmt.Sprint("Send of ", id), g.peers[id-1], []api.Msg{m}, e)
	}
}

// take lets a message come: those of votes are layer 10's.
func (g *group) take(s string) {
	g.t.Helper()
	m, e := vote.Read(s)
	if e != api.OK {
		g.t.Fatal(e)
	}
	from := g.peers[m.To-1]
	step := fmt.Sprintf("Take of %+v", m)
	if m.Kind == api.Ask || m.Kind == api.Told {
		p, sent, e := vote.Take(from, m)
		g.do(step, p, sent, e)
		return
	}
	want := copied(from)
	wantSent := wordsTake(&want, m)
	p, sent, e := logs.Take(from, m)
	stepped(g.t, step, from, p, sent, e, want, wantSent)
	g.do(step, p, sent, e)
}

// weather is how messages fare for a while: how many of a hundred are lost, and come and stay; and who is parted.
type weather struct {
	lost, doubled int
	apart         []int
}

func drawnWeather(r *rand.Rand, size int) weather {
	w := weather{lost: []int{0, 10, 40}[r.Intn(3)], doubled: []int{0, 20}[r.Intn(2)]}
	if r.Intn(2) == 0 {
		w.apart = r.Perm(size)[:r.Intn(size/2+1)]
	}
	return w
}

// parts says whether a message has to wait.
func (w weather) parts(m api.Msg) bool {
	return slices.Contains(w.apart, m.From-1) != slices.Contains(w.apart, m.To-1)
}

// step does one thing that may come about.
func (g *group) step(r *rand.Rand, w weather) {
	g.t.Helper()
	id := 1 + r.Intn(len(g.peers))
	n := len(g.flight)
	switch what := r.Intn(100); {
	case what == 0 && r.Intn(4) == 0:
		p, e := vote.Down(g.peers[id-1], g.peers[id-1].Term+uint64(r.Intn(2)))
		g.do("Down", p, nil, e)
	case what == 1:
		g.advance(id)
	case what < 5:
		g.send(id, 1+r.Intn(len(g.peers)))
	case what < 15:
		g.propose(id)
	case what < 40 || n == 0:
		g.tick(id, r.Intn(100))
	default:
		i := r.Intn(n)
		s := g.flight[i]
		if m, _ := vote.Read(s); w.parts(m) {
			return
		}
		if r.Intn(100) >= w.doubled {
			g.flight = slices.Delete(g.flight, i, i+1)
		}
		if r.Intn(100) >= w.lost {
			g.take(s)
		}
	}
	if len(g.flight) > 60 {
		g.flight = slices.Delete(g.flight, 0, 20)
	}
}

// P11.6: groups by ticks, proposals and messages that are lost, doubled and turned round, and members that are parted:
// logs are alike up to a common entry, and what is committed stays, everywhere.
func TestGroups(t *testing.T) {
	r := draws()
	for size := 1; size <= 7; size++ {
		commits, cuts, terms := 0, 0, 0
		for range 6 {
			g := newGroup(t, size, func() int { return 1 + r.Intn(20) })
			for range 15 {
				w := drawnWeather(r, size)
				for range 60 * size {
					g.step(r, w)
				}
			}
			commits, cuts, terms = commits+len(g.done)-1, cuts+g.cut, terms+len(g.led)
		}
		if commits < 100 || size > 2 && cuts < 3 || size > 1 && terms < 20 {
			t.Errorf("a group of %d: %d commits, %d cuts, %d terms with a leader", size, commits, cuts, terms)
		}
		t.Logf("a group of %d: %d commits, %d cuts, %d terms with a leader", size, commits, cuts, terms)
	}
}

// settle lets all messages come, in order, those of who is parted lost.
func (g *group) settle(w weather) {
	g.t.Helper()
	for len(g.flight) > 0 {
		s := g.flight[0]
		g.flight = g.flight[1:]
		if m, _ := vote.Read(s); !w.parts(m) {
			g.take(s)
		}
	}
}

// round is a tick of each member, behind each of which all messages come.
func (g *group) round(r *rand.Rand, w weather) {
	g.t.Helper()
	for id := range g.peers {
		g.tick(id+1, r.Intn(1000))
		g.settle(w)
	}
}

// leads is the member that leads in the last term, 0 if there is none.
func (g *group) leads() int {
	out, term := 0, uint64(0)
	for _, p := range g.peers {
		if p.Term > term {
			out, term = 0, p.Term
		}
		if p.Role == api.Leader && p.Term == term {
			out = p.Id
		}
	}
	return out
}

// elect goes on till one leads.
func (g *group) elect(r *rand.Rand, w weather) int {
	g.t.Helper()
	for range 300 {
		if id := g.leads(); id != 0 && !slices.Contains(w.apart, id-1) {
			return id
		}
		g.round(r, w)
	}
	g.t.Fatal("none leads")
	return 0
}

// agreed says whether all members have committed one log, to its end.
func (g *group) agreed() bool {
	for i, p := range g.peers {
		if !slices.Equal(g.paths[i], g.paths[0]) || int(p.Commit) != len(p.Log) || len(logs.Done(p, 0)) != len(p.Log) {
			return false
		}
	}
	return true
}

// P0.7, P11.6: groups whose messages all come: one leads, stays so, and what it is handed is committed by all, whether
// it is little or more than one message has.
func TestGroupsCalm(t *testing.T) {
	r := draws()
	for size := 1; size <= 7; size++ {
		for _, count := range []int{0, 1, api.MaxLay - 1, api.MaxLay, 3*api.MaxLay + 1} {
			g := newGroup(t, size, func() int { return api.MinWait + r.Intn(api.Spread) })
			id := g.elect(r, weather{})
			term := g.peers[id-1].Term
			for range count {
				if !g.propose(id) {
					t.Fatalf("%d does not lead: %+v", id, g.peers[id-1])
				}
			}
			for range 2 * api.Beat { // by one Beat they have the entries, by another one they know of the Commit
				g.round(r, weather{})
			}
			if !g.agreed() || len(g.done)-1 < count+1 {
				t.Fatalf("a group of %d, %d proposals: %+v", size, count, g.peers)
			}
			for range 100 {
				g.round(r, weather{})
			}
			if g.leads() != id || g.peers[id-1].Term != term || !g.agreed() {
				t.Errorf("a group of %d: %d led in %d, then %d", size, id, term, g.leads())
			}
		}
	}
}

// P0.7, P11.6: a leader that is parted goes on with nothing; the others have another one; when all messages come again
// it follows, and its log is theirs.
func TestGroupsHealed(t *testing.T) {
	r := draws()
	for size := 3; size <= 7; size++ {
		g := newGroup(t, size, func() int { return api.MinWait + r.Intn(api.Spread) })
		old := g.elect(r, weather{})
		for range 5 {
			g.propose(old)
		}
		w := weather{apart: []int{old - 1}}
		for range 20 {
			g.propose(old) // of which none can be committed
		}
		commit := g.peers[old-1].Commit
		for g.leads() == old {
			g.round(r, w)
		}
		now := g.elect(r, w)
		for range 2*api.MaxLay + 3 {
			g.propose(now)
		}
		for range 10 {
			g.round(r, w)
		}
		if p := g.peers[old-1]; p.Commit != commit || p.Role != api.Leader || len(p.Log) < 20 {
			t.Errorf("a group of %d: who is parted: %+v", size, p)
		}
		if p := g.peers[now-1]; p.Commit != uint64(len(p.Log)) || p.Commit < 2*api.MaxLay+4 {
			t.Errorf("a group of %d: who leads: %+v", size, p)
		}
		for range 20 {
			g.round(r, weather{})
		}
		if !g.agreed() || g.leads() != now || g.cut == 0 {
			t.Errorf("a group of %d: %+v", size, g.peers)
		}
	}
}

// P0.7: one alone of a group of three goes on with nothing; two are enough.
func TestGroupsHalf(t *testing.T) {
	r := draws()
	g := newGroup(t, 3, func() int { return api.MinWait + r.Intn(api.Spread) })
	w := weather{apart: []int{2}}
	id := g.elect(r, w)
	g.propose(id)
	for range 2 * api.Beat {
		g.round(r, w)
	}
	if p := g.peers[id-1]; p.Commit != uint64(len(p.Log)) || p.Commit < 2 {
		t.Errorf("two of three: %+v", p)
	}
	alone := weather{apart: []int{id - 1}}
	commit := g.peers[id-1].Commit
	g.propose(id)
	for range 10 {
		g.tick(id, 0)
		g.settle(alone)
	}
	if p := g.peers[id-1]; p.Commit != commit || p.Role != api.Leader {
		t.Errorf("one of three: %+v", p)
	}
}

// pass lets just those messages come that are under way from one member to another one.
func (g *group) pass(from, to int) {
	g.t.Helper()
	all := g.flight
	g.flight = nil
	for _, s := range all {
		if m, _ := vote.Read(s); m.From == from && m.To == to {
			g.take(s)
		} else {
			g.flight = append(g.flight, s)
		}
	}
}

// campaign lets a member lead in a term by the votes of some; all other messages are lost.
func (g *group) campaign(id int, term uint64, voters ...int) {
	g.t.Helper()
	p, e := vote.Down(g.peers[id-1], term-1)
	g.do("Down", p, nil, e)
	g.flight = nil
	for g.peers[id-1].Term < term {
		g.tick(id, 0)
	}
	for _, voter := range voters {
		g.pass(id, voter)
		g.pass(voter, id)
	}
	if p := g.peers[id-1]; p.Role != api.Leader || p.Term != term {
		g.t.Fatalf("%d does not lead in %d: %+v", id, term, p)
	}
	g.flight = nil
}

// reach lets a leader send to a member, which answers, till it has so many entries.
func (g *group) reach(id, to, entries int) {
	g.t.Helper()
	g.flight = nil
	g.send(id, to)
	for range 10 {
		g.pass(id, to)
		if len(g.peers[to-1].Log) == entries {
			break
		}
		g.pass(to, id)
	}
	if len(g.peers[to-1].Log) != entries {
		g.t.Fatalf("%d has not %d entries: %+v", to, entries, g.peers[to-1])
	}
}

// elder is a group of five in which 1 leads in the term 3, with 16 entries of the term 1, which 2 has, too, and one of
// its own, and 5 led in the term 2, with two entries that it alone has.
func elder(t *testing.T) *group {
	g := newGroup(t, 5, func() int { return 10 })
	g.campaign(1, 1, 2, 3)
	for range api.MaxLay - 1 {
		g.propose(1)
	}
	g.reach(1, 2, api.MaxLay)
	g.campaign(5, 2, 3, 4)
	g.propose(5)
	g.campaign(1, 3, 2, 3)
	return g
}

// P11.6: an entry of an elder term that a majority has is not committed by that, as it may still give way to another
// one.
func TestGroupElder(t *testing.T) {
	g := elder(t)
	for _, to := range []int{3, 4} { // as many entries as one message has, and so none of the term 3
		g.reach(1, to, api.MaxLay)
		g.pass(to, 1) // by which 1 sends the rest, which is lost
	}
	if p := g.peers[0]; p.Commit != 0 || p.Follows[1].Match != api.MaxLay || p.Follows[2].Match != api.MaxLay {
		t.Errorf("an entry of an elder term is committed: %+v", p)
	}
	g.campaign(5, 4, 3, 4)
	for _, to := range []int{3, 4} {
		g.reach(5, to, 3)
		g.pass(to, 5)
	}
	if p := g.peers[4]; p.Commit != 3 || g.cut < 2 {
		t.Errorf("who leads then: %+v, %d cuts", p, g.cut)
	}
}

// P11.6: once a majority has one of the leader's own term behind them, elder entries are committed, and no one leads
// any more that has not all of them.
func TestGroupOwn(t *testing.T) {
	g := elder(t)
	for _, to := range []int{3, 4} {
		g.reach(1, to, api.MaxLay+1)
		g.pass(to, 1)
	}
	if p := g.peers[0]; p.Commit != api.MaxLay+1 {
		t.Errorf("what a majority has is not committed: %+v", p)
	}
	p, e := vote.Down(g.peers[4], 3)
	g.do("Down", p, nil, e)
	for g.peers[4].Term < 4 {
		g.tick(5, 0)
	}
	g.settle(weather{})
	if p := g.peers[4]; p.Role == api.Leader {
		t.Errorf("who has not what is committed leads: %+v", p)
	}
}
