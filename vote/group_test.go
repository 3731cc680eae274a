package vote_test

import (
	"fmt"
	"math/rand"
	"slices"
	"strings"
	"testing"

	"tessera/api"
	"tessera/vote"
)

// group is members that begin by New with the same Members, the messages under way among them, and what P10.7 and
// P10.8 say of all that was: who led in each term, for whom each member voted in it, whom it granted an Ask.
type group struct {
	t       *testing.T
	peers   []api.Peer // the member k at k - 1
	flight  []string   // as bytes, as a network has them
	led     map[uint64]int
	voted   map[[2]uint64]int // by the member and the term
	granted map[[2]uint64]int
}

func newGroup(t *testing.T, size, outside int, waits func() int) *group {
	g := &group{t: t, led: map[uint64]int{}, voted: map[[2]uint64]int{}, granted: map[[2]uint64]int{}}
	var members []int
	for id := range size {
		members = append(members, id+1)
	}
	for id := range size + outside {
		p, e := vote.New(id+1, waits(), members...)
		if e != api.OK {
			t.Fatal(e)
		}
		g.peers = append(g.peers, p)
	}
	return g
}

// do puts a step's answer in the place of a member, once it is held to the promises.
func (g *group) do(step string, now api.Peer, sent []api.Msg, e api.Errno) {
	g.t.Helper()
	was := g.peers[now.Id-1]
	if e != api.OK || vote.May(now) != api.OK || !memberMay(now) {
		g.t.Fatalf("%s: %+v, %v", step, now, e)
	}
	if now.Term < was.Term {
		g.t.Fatalf("%s: the Term %d fell to %d", step, was.Term, now.Term)
	}
	at := [2]uint64{uint64(now.Id), now.Term}
	if was := g.voted[at]; was != 0 && was != now.Vote {
		g.t.Fatalf("%s: %d voted in %d for %d, then for %d", step, now.Id, now.Term, was, now.Vote)
	}
	g.voted[at] = now.Vote
	if now.Role == api.Leader {
		if was := g.led[now.Term]; was != 0 && was != now.Id {
			g.t.Fatalf("%s: %d and %d lead in %d", step, was, now.Id, now.Term)
		}
		g.led[now.Term] = now.Id
	}
	for _, m := range sent {
		g.send(step, at, m)
	}
	g.peers[now.Id-1] = now
}

func (g *group) send(step string, at [2]uint64, m api.Msg) {
	g.t.Helper()
	s, e := vote.Bytes(m)
	if e != api.OK || vote.MayMsg(m) != api.OK || uint64(m.From) != at[0] || m.Term != at[1] {
		g.t.Fatalf("%s: what is sent: %+v, %v", step, m, e)
	}
	if m.Kind == api.Told && m.Ok {
		if was := g.granted[at]; was != 0 && was != m.To {
			g.t.Fatalf("%s: %d granted %d and %d an Ask of %d", step, m.From, was, m.To, m.Term)
		}
		g.granted[at] = m.To
	}
	g.flight = append(g.flight, s)
}

func (g *group) tick(id, draw int) {
	g.t.Helper()
	want := copied(g.peers[id-1])
	wantSent := wordsTick(&want, draw)
	p, sent, e := vote.Tick(g.peers[id-1], draw)
	stepped(g.t, fmt.Sprint("Tick of ", id), p, sent, e, want, wantSent)
	g.do(fmt.Sprint("Tick of ", id), p, sent, e)
}

func (g *group) down(id int, term uint64) {
	g.t.Helper()
	p, e := vote.Down(g.peers[id-1], term)
	g.do(fmt.Sprint("Down of ", id, " to ", term), p, nil, e)
}

func (g *group) take(s string) {
	g.t.Helper()
	m, e := vote.Read(s)
	if e != api.OK {
		g.t.Fatalf("Read(%x): %v", s, e)
	}
	want := copied(g.peers[m.To-1])
	wantSent := wordsTake(&want, m)
	p, sent, e := vote.Take(g.peers[m.To-1], m)
	stepped(g.t, fmt.Sprintf("Take of %+v", m), p, sent, e, want, wantSent)
	g.do(fmt.Sprintf("Take of %+v", m), p, sent, e)
}

// step does one thing that may come about: a tick, a message that comes, is lost, or comes and stays; a Down.
func (g *group) step(r *rand.Rand) {
	g.t.Helper()
	id := 1 + r.Intn(len(g.peers))
	n := len(g.flight)
	switch what := r.Intn(40); {
	case what == 0:
		g.down(id, g.peers[id-1].Term+uint64(r.Intn(3))-min(1, g.peers[id-1].Term))
	case what < 12 || n == 0:
		g.tick(id, r.Intn(100))
	default:
		i := r.Intn(n)
		if what > 15 {
			g.take(g.flight[i])
		}
		if what < 34 {
			g.flight = slices.Delete(g.flight, i, i+1)
		}
	}
	if len(g.flight) > 40 {
		g.flight = slices.Delete(g.flight, 0, 20)
	}
}

// P10.7, P10.8: groups by ticks, messages that are lost, doubled and turned round, and members that stand down: no
// two lead in one term, no Term falls, no Vote changes within one, and no second Ask is granted in it.
func TestGroups(t *testing.T) {
	r := draws()
	for size := 1; size <= 7; size++ {
		for outside := range 2 {
			terms := 0
			for range 4 {
				g := newGroup(t, size, outside, func() int { return 1 + r.Intn(20) })
				for range 1500 {
					g.step(r)
				}
				terms += len(g.led)
				for term, id := range g.led {
					if id > size || term == 0 {
						t.Errorf("%d leads in %d", id, term)
					}
				}
			}
			if terms < 4 {
				t.Errorf("a group of %d: %d terms with a leader", size, terms)
			}
		}
	}
}

// P10.8: members several of which campaign at once, whose Asks then come in any order, to each one as often as may be.
func TestGroupsAtOnce(t *testing.T) {
	r := draws()
	led := 0
	for range 300 {
		size := 2 + r.Intn(4)
		g := newGroup(t, size, 0, func() int { return 1 })
		for _, id := range r.Perm(size)[:1+r.Intn(size)] {
			g.tick(id+1, r.Intn(10))
		}
		for range 200 {
			g.take(g.flight[r.Intn(len(g.flight))])
			if r.Intn(20) == 0 {
				g.tick(1+r.Intn(size), r.Intn(10))
			}
		}
		led += len(g.led)
	}
	if led < 30 {
		t.Errorf("%d terms with a leader", led)
	}
}

// until ticks a member till its Idle is 0 again, so that it has campaigned.
func until(t *testing.T, p api.Peer) (api.Peer, []api.Msg) {
	t.Helper()
	for range 20 {
		q, sent, e := vote.Tick(p, 0)
		if e != api.OK {
			t.Fatal(e)
		}
		if p = q; p.Role != api.Follower && (p.Idle == 0 || p.Role == api.Leader) {
			return p, sent
		}
	}
	t.Fatalf("it does not campaign: %+v", p)
	return p, nil
}

// world is all members and all messages that were ever sent: each of them may come at any time, or never.
type world struct {
	peers []api.Peer
	sent  []string
}

func (w world) key() string { return fmt.Sprintf("%+v", w.peers) + strings.Join(w.sent, "|") }

// next is another world, with a member and messages more.
func (w world) next(p api.Peer, sent []api.Msg) world {
	out := world{slices.Clone(w.peers), slices.Clone(w.sent)}
	out.peers[p.Id-1] = p
	for _, m := range sent {
		s, _ := vote.Bytes(m)
		if at, there := slices.BinarySearch(out.sent, s); !there {
			out.sent = slices.Insert(out.sent, at, s)
		}
	}
	return out
}

// follows is all worlds that one step makes of a world, up to a term.
func (w world) follows(t *testing.T, term uint64) []world {
	var out []world
	for _, p := range w.peers {
		if p.Term < term && p.Role != api.Leader {
			out = append(out, w.next(until(t, p)))
		}
		if p.Role != api.Follower {
			q, _ := vote.Down(p, p.Term)
			out = append(out, w.next(q, nil))
		}
	}
	for _, s := range w.sent {
		m, _ := vote.Read(s)
		p, sent, e := vote.Take(w.peers[m.To-1], m)
		if e != api.OK {
			t.Fatalf("Take of %+v: %v", m, e)
		}
		out = append(out, w.next(p, sent))
	}
	return out
}

// P10.8: of a small group all that may come about, up to a term: whoever leads in a term, along each row of steps, is
// the only one.
func TestGroupAll(t *testing.T) {
	for _, c := range []struct {
		size int
		term uint64
	}{{1, 3}, {2, 3}, {3, 1}} {
		w := world{}
		for id := range c.size {
			members := []int{1, 2, 3}[:c.size]
			p, e := vote.New(id+1, 10, members...)
			if e != api.OK {
				t.Fatal(e)
			}
			w.peers = append(w.peers, p)
		}
		// who led is told by the way, so that a world is another one by it
		type place struct {
			w   world
			led [4]int
		}
		seen := map[string]struct{}{}
		row := []place{{w: w}}
		leaders := 0
		for len(row) > 0 {
			at := row[0]
			row = row[1:]
			for _, next := range at.w.follows(t, c.term) {
				led := at.led
				for _, p := range next.peers {
					if p.Role != api.Leader {
						continue
					}
					leaders++
					if was := led[p.Term]; was != 0 && was != p.Id {
						t.Fatalf("%d and %d lead in %d: %+v", was, p.Id, p.Term, next)
					}
					led[p.Term] = p.Id
				}
				key := next.key() + fmt.Sprint(led)
				if _, there := seen[key]; !there {
					seen[key] = struct{}{}
					row = append(row, place{next, led})
				}
			}
		}
		if leaders == 0 {
			t.Errorf("a group of %d has no leader", c.size)
		}
		t.Logf("a group of %d up to the term %d: %d worlds", c.size, c.term, len(seen))
	}
}

// P10.8: two leaders of one log's beginning come one behind the other: the log of who leads later is not behind that of
// a majority, as each that granted it says.
func TestGroupLater(t *testing.T) {
	g := newGroup(t, 3, 0, func() int { return 10 })
	first, asks := until(t, g.peers[0])
	g.do("the first campaign", first, asks, api.OK)
	for _, s := range slices.Clone(g.flight) {
		g.take(s)
	}
	for _, s := range slices.Clone(g.flight) {
		if m, _ := vote.Read(s); m.Kind == api.Told {
			g.take(s)
		}
	}
	if g.led[1] != 1 {
		t.Fatalf("who leads: %v", g.led)
	}
	// the leader has an entry that the others have not: it grants none of them, but they grant one another
	second, asks := until(t, g.peers[1])
	g.flight = nil
	g.do("the second campaign", second, asks, api.OK)
	for _, s := range slices.Clone(g.flight) {
		g.take(s)
	}
	if g.granted[[2]uint64{1, 2}] != 0 || g.granted[[2]uint64{3, 2}] != 2 {
		t.Errorf("who granted: %v", g.granted)
	}
	if p := g.peers[0]; p.Role != api.Follower || p.Term != 2 || p.Vote != 0 || p.Lead != 0 || len(p.Follows) != 0 {
		t.Errorf("the first leader: %+v", p)
	}
	for _, s := range slices.Clone(g.flight) {
		if m, _ := vote.Read(s); m.Kind == api.Told {
			g.take(s)
		}
	}
	if g.led[2] != 2 {
		t.Errorf("who leads: %v", g.led)
	}
}
