package trim_test

import (
	"fmt"
	"math/rand"
	"slices"
	"strconv"
	"strings"
	"testing"

	"tessera/api"
	"tessera/disk"
	"tessera/keep"
	"tessera/logs"
	"tessera/trim"
	"tessera/vote"
	"tessera/wal"
)

// line is an entry as a text. A snapshot is here the lines of all entries that it stands for, so that a log can be told
// from its beginning on, whatever was cut off.
func line(e api.Entry) string { return fmt.Sprintf("%d %d %q %v\n", e.Term, e.Kind, e.Data, e.Members) }

// whole is the lines of a member's log from its beginning on.
func whole(p api.Peer) []string {
	out := slices.Collect(strings.Lines(p.Snap))
	for _, e := range p.Log {
		out = append(out, line(e))
	}
	return out
}

// termOf is the term of an entry by its line.
func termOf(line string) uint64 {
	number, _, _ := strings.Cut(line, " ")
	term, _ := strconv.ParseUint(number, 10, 64)
	return term
}

// snapOf is the snapshot of a member up to an index.
func snapOf(p api.Peer, to uint64) string { return strings.Join(whole(p)[:to], "") }

// sound says what of a member's snapshot does not stand for the log that it has.
func sound(p api.Peer, group []int) string {
	l := slices.Collect(strings.Lines(p.Snap))
	switch {
	case vote.May(p) != api.OK:
		return "a member that may not be"
	case uint64(len(l)) != p.Base:
		return "a snapshot that does not end at Base"
	case p.Base > 0 && termOf(l[len(l)-1]) != p.BaseTerm:
		return "a snapshot whose last entry is not of BaseTerm"
	case !slices.Equal(p.BaseMembers, group):
		return "a snapshot with other members"
	}
	return ""
}

// tree gives each beginning of a log a number: two logs are the same up to an index, if they have one number there.
type tree map[string]int

// path is the numbers of a log's beginnings, from that of nothing on.
func (tr tree) path(p api.Peer) []int {
	out := []int{0}
	for i, l := range whole(p) {
		step := fmt.Sprint(out[i], " ", l)
		if _, there := tr[step]; !there {
			tr[step] = len(tr) + 1
		}
		out = append(out, tr[step])
	}
	return out
}

// committed is the beginning of a log that was committed, and the least term in which a member knew of it.
type committed struct {
	node int
	term uint64
}

// machine is a member with its disk.
type machine struct {
	p    api.Peer
	path []int
	d    *disk.Disk
	w    *wal.Wal
}

// group is members that begin by New with the same Members, are saved ahead of what they send, and crash; the messages
// under way among them; and what P10.8 and P11.6 say of all that was.
type group struct {
	t        *testing.T
	waits    func() int
	members  []int
	machines []*machine // the member k at k - 1
	flight   []string   // as bytes, as a network has them
	tree     tree
	alike    map[[2]uint64]int // by an index and a term: the log up to it
	done     []committed       // by an index
	led      map[uint64]int
	votes    map[[2]uint64]int // by a term and who voted in it
	data     int               // how many were proposed
	count    map[string]int
}

func newGroup(t *testing.T, size int, waits func() int) *group {
	g := &group{
		t: t, waits: waits, tree: tree{}, alike: map[[2]uint64]int{}, done: []committed{{}},
		led: map[uint64]int{}, votes: map[[2]uint64]int{}, count: map[string]int{},
	}
	for id := range size {
		g.members = append(g.members, id+1)
	}
	for _, id := range g.members {
		p, e := vote.New(id, waits(), g.members...)
		if e != api.OK {
			t.Fatal(e)
		}
		m := &machine{p: p, path: []int{0}, d: disk.New(1 << 26)}
		if m.w, e = wal.Open(m.d, "w"); e != api.OK {
			t.Fatal(e)
		}
		g.machines = append(g.machines, m)
	}
	return g
}

func (g *group) at(id int) api.Peer { return g.machines[id-1].p }

// do saves what a step has made of a member, puts it in its place, and sends; and holds all of them to the promises.
func (g *group) do(step string, now api.Peer, sent []api.Msg, e api.Errno) {
	g.t.Helper()
	if e != api.OK {
		g.t.Fatalf("%s: %v", step, e)
	}
	m := g.machines[now.Id-1]
	follows(g.t, step, m.p, now, sent)
	if e := keep.Save(m.w, m.p, now); e != api.OK {
		g.t.Fatalf("%s: Save: %v", step, e)
	}
	g.become(step, m, now)
	for _, msg := range sent {
		g.checkVote(step, msg)
		s, e := vote.Bytes(msg)
		if e != api.OK {
			g.t.Fatalf("%s: %+v: %v", step, msg, e)
		}
		g.flight = append(g.flight, s)
	}
	if g.t.Failed() {
		g.t.FailNow()
	}
}

// become puts a member in its place.
func (g *group) become(step string, m *machine, now api.Peer) {
	g.t.Helper()
	if fault := sound(now, g.members); fault != "" {
		g.t.Fatalf("%s: %s: %+v", step, fault, now)
	}
	path := g.tree.path(now)
	if n := min(len(m.path), len(path)); len(path) < len(m.path) || !slices.Equal(m.path[:n], path[:n]) {
		g.count["cuts"]++
	}
	m.p, m.path = now, path
	g.checkAlike(step, m)
	g.checkDone(step, m)
	for _, m := range g.machines {
		g.checkLeader(step, m)
	}
}

// checkAlike: two logs that have an entry of one index and one term, whenever that was, are the same up to it.
func (g *group) checkAlike(step string, m *machine) {
	g.t.Helper()
	for i, l := range whole(m.p) {
		at := [2]uint64{uint64(i + 1), termOf(l)}
		if node, there := g.alike[at]; there && node != m.path[i+1] {
			g.t.Fatalf("%s: two logs have an entry %d of %d, and are not the same up to it: %+v", step, at[0], at[1], m.p)
		}
		g.alike[at] = m.path[i+1]
	}
}

// checkDone: two members' committed entries of one index are the same, whenever they were.
func (g *group) checkDone(step string, m *machine) {
	g.t.Helper()
	for i := uint64(1); i <= m.p.Commit; i++ {
		if i == uint64(len(g.done)) {
			g.done = append(g.done, committed{m.path[i], m.p.Term})
		}
		if g.done[i].node != m.path[i] {
			g.t.Fatalf("%s: two entries %d are committed: %+v", step, i, m.p)
		}
		g.done[i].term = min(g.done[i].term, m.p.Term)
	}
}

// checkLeader: one leads in a term; what was committed in an earlier one is in its log.
func (g *group) checkLeader(step string, m *machine) {
	g.t.Helper()
	p := m.p
	if p.Role != api.Leader {
		return
	}
	if was := g.led[p.Term]; was != 0 && was != p.Id {
		g.t.Fatalf("%s: %d and %d lead in %d", step, was, p.Id, p.Term)
	}
	g.led[p.Term] = p.Id
	for i, c := range g.done {
		if c.term < p.Term && (i >= len(m.path) || m.path[i] != c.node) {
			g.t.Fatalf("%s: the leader %d of %d has not what was committed at %d in %d: %+v", step, p.Id, p.Term, i, c.term, p)
		}
	}
}

// checkVote: a member grants one Ask of a term.
func (g *group) checkVote(step string, m api.Msg) {
	g.t.Helper()
	if m.Kind != api.Told || !m.Ok {
		return
	}
	at := [2]uint64{m.Term, uint64(m.From)}
	if was, there := g.votes[at]; there && was != m.To {
		g.t.Fatalf("%s: %d voted for %d and %d in %d", step, m.From, was, m.To, m.Term)
	}
	g.votes[at] = m.To
}

func (g *group) tick(id, draw int) {
	g.t.Helper()
	p, sent, e := logs.Tick(g.at(id), draw)
	g.do(fmt.Sprint("Tick of ", id), p, sent, e)
}

// propose hands one data of its own, now and then a Seats entry of the same members: whether it leads.
func (g *group) propose(id int) bool {
	g.t.Helper()
	if g.at(id).Role != api.Leader {
		return false
	}
	if g.data++; g.data%7 == 0 {
		p := copied(g.at(id))
		p.Log = append(p.Log, api.Entry{Term: p.Term, Kind: api.Seats, Members: slices.Clone(g.members)})
		p, e := logs.Advance(p)
		g.do(fmt.Sprint("Seats of ", id), p, nil, e)
		return true
	}
	p, _, e := logs.Propose(g.at(id), fmt.Sprint("command ", g.data))
	g.do(fmt.Sprint("Propose of ", id), p, nil, e)
	return true
}

// compact cuts a log off: whether there is anything to cut.
func (g *group) compact(id int, to uint64) bool {
	g.t.Helper()
	p := g.at(id)
	if to <= p.Base || to > p.Commit {
		return false
	}
	g.count["compacts"]++
	snap := snapOf(p, to)
	q, e := trim.Compact(p, to, snap)
	want := copied(p)
	wordsCompact(&want, to, snap)
	stepped(g.t, fmt.Sprint("Compact of ", id), p, q, nil, e, want, nil)
	asked(g.t, p, q)
	g.do(fmt.Sprint("Compact of ", id), q, nil, e)
	return true
}

// send lets a leader send to one of the others, whatever its ticks say.
func (g *group) send(id, to int) {
	g.t.Helper()
	if m, e := logs.Send(g.at(id), to); e == api.OK {
		g.do(fmt.Sprint("Send of ", id), g.at(id), []api.Msg{m}, e)
	}
}

// took is what Step makes of a message that comes.
func (g *group) took(s string) (step string, p api.Peer, sent []api.Msg, e api.Errno) {
	g.t.Helper()
	m, e := vote.Read(s)
	if e != api.OK {
		g.t.Fatal(e)
	}
	from := g.at(m.To)
	step = fmt.Sprintf("Step of %+v", m)
	p, sent, e = trim.Step(from, m)
	if m.Kind == api.Install {
		want := copied(from)
		wantSent := wordsInstall(&want, m)
		stepped(g.t, step, from, p, sent, e, want, wantSent)
		if g.count["installs"]++; p.Base > from.Base {
			g.count["installed"]++
		}
		if len(p.Log) > 0 && p.Base > from.Base {
			g.count["stayed"]++
		}
	}
	return step, p, sent, e
}

func (g *group) take(s string) {
	g.t.Helper()
	step, p, sent, e := g.took(s)
	g.do(step, p, sent, e)
}

// half lets a message come to a machine that crashes on the way of saving what it becomes: nothing is sent.
func (g *group) half(r *rand.Rand, s string) {
	g.t.Helper()
	step, p, _, e := g.took(s)
	m := g.machines[p.Id-1]
	records, f := keep.Diff(m.p, p)
	if e != api.OK || f != api.OK {
		g.t.Fatalf("%s: %v, %v", step, e, f)
	}
	if _, e := m.w.Append(records[:r.Intn(len(records)+1)]...); e != api.OK {
		g.t.Fatalf("%s: Append: %v", step, e)
	}
	g.crash(r, p.Id)
}

// crash lets a machine forget all but what its disk keeps.
func (g *group) crash(r *rand.Rand, id int) {
	g.t.Helper()
	m := g.machines[id-1]
	g.count["crashes"]++
	m.d.Crash(r.Intn(m.d.Loose()+1), r.Intn(60))
	w, e := wal.Open(m.d, "w")
	if e != api.OK {
		g.t.Fatalf("Open: %v", e)
	}
	p, e := keep.Load(w, id, g.waits(), g.members...)
	if e != api.OK || p.Term < m.p.Term {
		g.t.Fatalf("Load: %+v, %v", p, e)
	}
	m.w = w
	g.become(fmt.Sprint("a crash of ", id), m, p)
}

// weather is how messages fare for a while: how many of a hundred are lost, and come and stay; and who is parted.
type weather struct {
	lost, doubled, crash int
	apart                []int
}

func drawnWeather(r *rand.Rand, size int) weather {
	w := weather{lost: []int{0, 10, 40}[r.Intn(3)], doubled: []int{0, 20}[r.Intn(2)], crash: []int{0, 0, 3}[r.Intn(3)]}
	if r.Intn(2) == 0 {
		w.apart = r.Perm(size)[:r.Intn(size/2+1)]
	}
	return w
}

// parts says whether a message has to wait.
func (w weather) parts(m api.Msg) bool {
	return slices.Contains(w.apart, m.From-1) != slices.Contains(w.apart, m.To-1)
}

// step does one thing that may come about.
func (g *group) step(r *rand.Rand, w weather) {
	g.t.Helper()
	id := 1 + r.Intn(len(g.members))
	p := g.at(id)
	switch what := r.Intn(100); {
	case what == 0 && r.Intn(4) == 0:
		q, e := vote.Down(p, p.Term+uint64(r.Intn(2)))
		g.do("Down", q, nil, e)
	case what == 1 && w.crash > 0:
		g.crash(r, id)
	case what < 4:
		g.send(id, 1+r.Intn(len(g.members)))
	case what < 12:
		g.propose(id)
	case what < 20:
		g.compact(id, p.Base+1+uint64(r.Intn(int(p.Commit-p.Base)+1)))
	case what == 20:
		if e := keep.Trim(g.machines[id-1].w, p); e != api.OK {
			g.t.Fatalf("Trim: %v", e)
		}
	case what < 42 || len(g.flight) == 0:
		g.tick(id, r.Intn(100))
	default:
		g.comes(r, w)
	}
	if len(g.flight) > 60 {
		g.flight = slices.Delete(g.flight, 0, 20)
	}
}

// comes lets one message of those under way fare as the weather is.
func (g *group) comes(r *rand.Rand, w weather) {
	g.t.Helper()
	i := r.Intn(len(g.flight))
	s := g.flight[i]
	if m, _ := vote.Read(s); w.parts(m) {
		return
	}
	if r.Intn(100) >= w.doubled {
		g.flight = slices.Delete(g.flight, i, i+1)
	}
	switch {
	case r.Intn(100) < w.crash:
		g.half(r, s)
	case r.Intn(100) >= w.lost:
		g.take(s)
	}
}

// P13.4, P0.6: groups by ticks, proposals, logs that are cut off, snapshots and other messages that are lost, doubled
// and turned round, members that are parted and that crash: one leader a term, logs are alike up to a common entry, and
// what is committed stays, everywhere.
func TestGroups(t *testing.T) {
	r := draws()
	for size := 1; size <= 5; size++ {
		all := map[string]int{}
		for range 24 {
			g := newGroup(t, size, func() int { return 1 + r.Intn(20) })
			for range 12 {
				w := drawnWeather(r, size)
				for range 60 * size {
					g.step(r, w)
				}
			}
			for what, n := range g.count {
				all[what] += n
			}
			all["commits"] += len(g.done) - 1
			all["terms"] += len(g.led)
		}
		least := map[string]int{"commits": 500, "compacts": 500, "crashes": 50}
		if size > 1 {
			least["terms"] = 100
		}
		if size > 2 {
			least["cuts"], least["installs"], least["installed"] = 20, 100, 50
		}
		for what, n := range least {
			if all[what] < n {
				t.Errorf("a group of %d: %s %d times of %v", size, what, all[what], all)
			}
		}
		t.Logf("a group of %d: %v", size, all)
	}
}

// settle lets all messages come, in order, those of who is parted lost.
func (g *group) settle(w weather) {
	g.t.Helper()
	for len(g.flight) > 0 {
		s := g.flight[0]
		g.flight = g.flight[1:]
		if m, _ := vote.Read(s); !w.parts(m) {
			g.take(s)
		}
	}
}

// round is a tick of each member, behind each of which all messages come.
func (g *group) round(r *rand.Rand, w weather) {
	g.t.Helper()
	for _, id := range g.members {
		g.tick(id, r.Intn(1000))
		g.settle(w)
	}
}

// leads is the member that leads in the last term, 0 if there is none.
func (g *group) leads() int {
	out, term := 0, uint64(0)
	for _, m := range g.machines {
		if m.p.Term > term {
			out, term = 0, m.p.Term
		}
		if m.p.Role == api.Leader && m.p.Term == term {
			out = m.p.Id
		}
	}
	return out
}

// elect goes on till one leads.
func (g *group) elect(r *rand.Rand, w weather) int {
	g.t.Helper()
	for range 300 {
		if id := g.leads(); id != 0 && !slices.Contains(w.apart, id-1) {
			return id
		}
		g.round(r, w)
	}
	g.t.Fatal("none leads")
	return 0
}

// agreed says whether all members have committed one log, to its end, whatever of it they have cut off.
func (g *group) agreed() bool {
	for _, m := range g.machines {
		if !slices.Equal(m.path, g.machines[0].path) || m.p.Commit != lastOf(m.p) {
			return false
		}
	}
	return true
}

// calm is a group whose members wait as long as ticks make them.
func calm(t *testing.T, r *rand.Rand, size int) *group {
	return newGroup(t, size, func() int { return api.MinWait + r.Intn(api.Spread) })
}

// P13.4, P0.7: who was parted, or crashed, while the others went on and cut their logs off is given a snapshot and what
// is behind it, be that little or more than one message has; all have one log then.
func TestGroupsFarBehind(t *testing.T) {
	r := draws()
	for size := 3; size <= 5; size++ {
		for _, behind := range []int{0, 1, api.MaxLay, 2*api.MaxLay + 3} {
			g := calm(t, r, size)
			old := g.elect(r, weather{})
			for range 4 {
				g.propose(old)
			}
			w := weather{apart: []int{old - 1}}
			for range 5 {
				g.propose(old) // of which none can be committed
			}
			now := g.elect(r, w)
			for range 20 {
				g.propose(now)
			}
			for range 2 * api.Beat {
				g.round(r, w)
			}
			for id, m := range g.machines {
				if id+1 != old && !g.compact(id+1, m.p.Commit) {
					t.Fatalf("nothing to cut off: %+v", m.p)
				}
			}
			for range behind {
				g.propose(now)
			}
			g.crash(r, old)
			for range 8 * api.Beat {
				g.round(r, weather{})
			}
			if !g.agreed() || g.leads() != now || g.count["installed"] == 0 || g.at(old).Base < 20 {
				t.Errorf("a group of %d, %d behind: %v: %+v", size, behind, g.count, g.at(old))
			}
		}
	}
}

// P13.4, P0.7: a group whose members all cut their logs off up to Commit again and again goes on as one that does not.
func TestGroupsCalm(t *testing.T) {
	r := draws()
	for size := 1; size <= 5; size++ {
		g := calm(t, r, size)
		id := g.elect(r, weather{})
		term := g.at(id).Term
		for turn := range 30 {
			for range turn % 5 {
				if !g.propose(id) {
					t.Fatalf("%d does not lead: %+v", id, g.at(id))
				}
			}
			g.round(r, weather{})
			for _, m := range g.machines {
				g.compact(m.p.Id, m.p.Commit)
			}
		}
		for range 2 * api.Beat {
			g.round(r, weather{})
		}
		if !g.agreed() || g.leads() != id || g.at(id).Term != term || len(g.done)-1 < g.data+1 {
			t.Errorf("a group of %d: %+v", size, g.machines)
		}
	}
}

// P13.4: a member that has an entry of the leader's snapshot, but does not know that it is committed, keeps those
// behind it; one whose entries are another leader's loses all of them.
func TestGroupInstall(t *testing.T) {
	for _, own := range []bool{true, false} {
		g := newGroup(t, 3, func() int { return 10 })
		lead := func(id, voter int, term uint64) {
			p, e := vote.Down(g.at(id), term-1)
			g.do("Down", p, nil, e)
			g.flight = nil
			for g.at(id).Term < term {
				g.tick(id, 0)
			}
			g.pass(id, voter)
			g.pass(voter, id)
			if p := g.at(id); p.Role != api.Leader || p.Term != term {
				t.Fatalf("%d does not lead in %d: %+v", id, term, p)
			}
			g.flight = nil
		}
		lead(1, 2, 1)
		for range 5 {
			g.propose(1)
		}
		if own {
			g.send(1, 3)
			g.pass(1, 3)
			g.flight = nil // its answer is lost
		} else {
			lead(3, 2, 2)
			for range 5 {
				g.propose(3)
			}
			lead(1, 2, 3)
		}
		g.send(1, 2)
		for range 3 {
			g.pass(1, 2)
			g.pass(2, 1)
		}
		g.compact(1, 4)
		g.flight = nil
		before := g.at(3)
		g.send(1, 3)
		for range 8 {
			g.pass(1, 3)
			g.pass(3, 1)
		}
		if g.count["installed"] != 1 || g.at(3).Base != 4 || !slices.Equal(g.machines[0].path, g.machines[2].path) {
			t.Errorf("own %v: %v: %+v\n was %+v", own, g.count, g.at(3), before)
		}
		if stayed := g.count["stayed"] == 1; stayed != own {
			t.Errorf("own %v: entries stayed: %v", own, stayed)
		}
	}
}

// pass lets just those messages come that are under way from one member to another one.
func (g *group) pass(from, to int) {
	g.t.Helper()
	all := g.flight
	g.flight = nil
	for _, s := range all {
		if m, _ := vote.Read(s); m.From == from && m.To == to {
			g.take(s)
		} else {
			g.flight = append(g.flight, s)
		}
	}
}
