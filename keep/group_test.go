package keep_test

import (
	"math/rand"
	"testing"

	"tessera/api"
	"tessera/disk"
	"tessera/keep"
	"tessera/logs"
	"tessera/vote"
	"tessera/wal"
)

// P12.5, DOC.md's third example: who crashed behind its vote does not vote for another one in that term.
func TestVoteIsKept(t *testing.T) {
	ask := func(from int) api.Msg { return api.Msg{Kind: api.Ask, From: from, To: 2, Term: 1} }
	for kept := range 2 {
		d, w := roomy(t)
		p, answer, e := vote.Take(fresh(), ask(1))
		if e != api.OK || !answer[0].Ok {
			t.Fatalf("the first Ask: %+v, %v", answer, e)
		}
		if e := keep.Save(w, fresh(), p); e != api.OK {
			t.Fatalf("Save: %v", e)
		}
		d.Append("else", "x")
		d.Crash(kept, 0)
		p, e = keep.Load(opened(t, d), 2, 10, 1, 2, 3)
		if e != api.OK {
			t.Fatalf("Load: %v", e)
		}
		if _, answer, e = vote.Take(p, ask(3)); e != api.OK || answer[0].Ok {
			t.Errorf("an Ask of another one: %+v, %v", answer, e)
		}
		if _, answer, e = vote.Take(p, ask(1)); e != api.OK || !answer[0].Ok {
			t.Errorf("the same Ask again: %+v, %v", answer, e)
		}
	}
}

// machine is a member with its disk.
type machine struct {
	p api.Peer
	d *disk.Disk
	w *wal.Wal
}

// ballot is a vote that a member was heard to give.
type ballot struct {
	term  uint64
	voter int
}

// group is members that are saved ahead of what they send, and crash; and what was ever seen of them.
type group struct {
	t        *testing.T
	r        *rand.Rand
	machines map[int]*machine
	msgs     []api.Msg
	leads    map[uint64]int
	votes    map[ballot]int
	done     map[uint64]string
	crashes  int
}

func newGroup(t *testing.T, r *rand.Rand, members ...int) *group {
	g := &group{t: t, r: r, machines: map[int]*machine{}, leads: map[uint64]int{}, votes: map[ballot]int{}, done: map[uint64]string{}}
	for _, id := range members {
		d := disk.New(1 << 22)
		p, _ := vote.New(id, 2+id, members...)
		g.machines[id] = &machine{p, d, opened(t, d)}
	}
	return g
}

// become saves what a member has become, and sends; or it crashes on the way, and nothing is sent.
func (g *group) become(m *machine, now api.Peer, sent []api.Msg, e api.Errno) {
	g.t.Helper()
	if e != api.OK {
		g.t.Fatalf("a step: %v", e)
	}
	if g.r.Intn(40) == 0 {
		ops := saveOps(m.p, now)
		if n := g.r.Intn(len(ops) + 1); opsOn(g.t, m.d, ops[:n]) != api.OK {
			g.t.Fatal("no room")
		}
		g.crash(m)
		return
	}
	if e := keep.Save(m.w, m.p, now); e != api.OK {
		g.t.Fatalf("Save: %v", e)
	}
	m.p = now
	g.msgs = append(g.msgs, sent...)
	g.look(m, sent)
	if g.r.Intn(30) == 0 {
		if e := keep.Trim(m.w, m.p); e != api.OK {
			g.t.Fatalf("Trim: %v", e)
		}
	}
	if g.r.Intn(40) == 0 {
		g.crash(m)
	}
}

// crash lets a machine forget all but what its disk keeps.
func (g *group) crash(m *machine) {
	g.t.Helper()
	g.crashes++
	m.d.Crash(g.r.Intn(m.d.Loose()+1), g.r.Intn(40))
	m.w = opened(g.t, m.d)
	p, e := keep.Load(m.w, m.p.Id, 3+g.r.Intn(6), 1, 2, 3)
	if e != api.OK {
		g.t.Fatalf("Load: %v", e)
	}
	m.p = p
}

// look holds what a member is, and what it sends, to P0.6: one leader a term, one vote, and what is committed stays.
func (g *group) look(m *machine, sent []api.Msg) {
	g.t.Helper()
	for _, msg := range sent {
		if msg.Kind != api.Told || !msg.Ok {
			continue
		}
		key := ballot{msg.Term, msg.From}
		if other, there := g.votes[key]; there && other != msg.To {
			g.t.Fatalf("%d voted for %d and %d in the term %d", msg.From, other, msg.To, msg.Term)
		}
		g.votes[key] = msg.To
	}
	if m.p.Role == api.Leader {
		if other, there := g.leads[m.p.Term]; there && other != m.p.Id {
			g.t.Fatalf("%d and %d lead in the term %d", other, m.p.Id, m.p.Term)
		}
		g.leads[m.p.Term] = m.p.Id
	}
	for i, entry := range logs.Done(m.p, 0) {
		index := m.p.Base + uint64(i) + 1
		if other, there := g.done[index]; there && other != wordsEntry(entry) {
			g.t.Fatalf("%d has another entry at %d than was committed there", m.p.Id, index)
		}
		g.done[index] = wordsEntry(entry)
	}
}

// step does one thing of those that may come about.
func (g *group) step() {
	g.t.Helper()
	m := g.machines[1+g.r.Intn(3)]
	switch n := g.r.Intn(10); {
	case n < 2:
		now, sent, e := logs.Tick(m.p, g.r.Intn(50))
		g.become(m, now, sent, e)
	case n < 3 && m.p.Role == api.Leader:
		now, _, e := logs.Propose(m.p, "some data"[:g.r.Intn(9)])
		g.become(m, now, nil, e)
	case len(g.msgs) > 0:
		at := g.r.Intn(len(g.msgs))
		msg := g.msgs[at]
		if g.r.Intn(5) > 0 { // else it is doubled
			g.msgs = append(g.msgs[:at:at], g.msgs[at+1:]...)
		}
		if g.r.Intn(10) > 0 { // else it is lost, or comes later
			g.take(g.machines[msg.To], msg)
		}
	}
}

func (g *group) take(m *machine, msg api.Msg) {
	g.t.Helper()
	call := logs.Take
	if msg.Kind == api.Ask || msg.Kind == api.Told {
		call = vote.Take
	}
	now, sent, e := call(m.p, msg)
	g.become(m, now, sent, e)
}

// P12.5, P0.6: members that are saved ahead of what they send, and crash wherever they may, are a group still: one
// leader a term, one vote a term, and what was committed at one is nowhere another one.
func TestGroup(t *testing.T) {
	r := draws()
	leads, committed, crashed := 0, 0, 0
	for range 30 {
		g := newGroup(t, r, 1, 2, 3)
		for range 1500 {
			g.step()
			if len(g.msgs) > 60 {
				g.msgs = g.msgs[30:]
			}
		}
		leads, committed, crashed = leads+len(g.leads), committed+len(g.done), crashed+g.crashes
	}
	if leads < 100 || committed < 500 || crashed < 500 {
		t.Errorf("what is drawn tells little: %d terms with a leader, %d entries committed, %d crashes", leads, committed, crashed)
	}
}
