package seats_test

import (
	"fmt"
	"math/rand"
	"slices"
	"strconv"
	"strings"
	"testing"

	"tessera/api"
	"tessera/disk"
	"tessera/keep"
	"tessera/logs"
	"tessera/seats"
	"tessera/trim"
	"tessera/vote"
	"tessera/wal"
)

// line is an entry as a text. A snapshot is here the lines of all entries that it stands for, so that a log can be told
// from its beginning on, whatever was cut off.
func line(e api.Entry) string { return fmt.Sprintf("%d %d %q %v\n", e.Term, e.Kind, e.Data, e.Members) }

// whole is the lines of a member's log from its beginning on.
func whole(p api.Peer) []string {
	out := slices.Collect(strings.Lines(p.Snap))
	for _, e := range p.Log {
		out = append(out, line(e))
	}
	return out
}

// termOf is the term of an entry by its line.
func termOf(line string) uint64 {
	number, _, _ := strings.Cut(line, " ")
	term, _ := strconv.ParseUint(number, 10, 64)
	return term
}

// seatsOf is the members that an entry has, by its line; none of most.
func seatsOf(line string) []int {
	_, list, _ := strings.Cut(line, " [")
	var out []int
	for _, word := range strings.Fields(strings.TrimSuffix(list, "]\n")) {
		id, _ := strconv.Atoi(word)
		out = append(out, id)
	}
	return out
}

// seatedBy is the members by a log's lines, of a group that had others at first.
func seatedBy(group []int, lines []string) []int {
	for _, l := range slices.Backward(lines) {
		if ids := seatsOf(l); len(ids) > 0 {
			return ids
		}
	}
	return group
}

// snapOf is the snapshot of a member up to an index.
func snapOf(p api.Peer, to uint64) string { return strings.Join(whole(p)[:to], "") }

// sound says what of a member does not stand for the log that it has from its beginning on.
func sound(p api.Peer, group []int) string {
	l := whole(p)
	switch {
	case vote.May(p) != api.OK:
		return "a member that may not be"
	case uint64(len(l)) != lastOf(p):
		return "a snapshot that does not end at Base"
	case p.Base > 0 && termOf(l[p.Base-1]) != p.BaseTerm:
		return "a snapshot whose last entry is not of BaseTerm"
	case !slices.Equal(p.BaseMembers, seatedBy(group, l[:p.Base])):
		return "a snapshot with other members"
	case !slices.Equal(p.Members, seatedBy(group, l)):
		return "other members than the log says"
	}
	return ""
}

// tree gives each beginning of a log a number: two logs are the same up to an index, if they have one number there.
type tree map[string]int

// path is the numbers of a log's beginnings, from that of nothing on.
func (tr tree) path(p api.Peer) []int {
	out := []int{0}
	for i, l := range whole(p) {
		step := fmt.Sprint(out[i], " ", l)
		if _, there := tr[step]; !there {
			tr[step] = len(tr) + 1
		}
		out = append(out, tr[step])
	}
	return out
}

// committed is the beginning of a log that was committed, and the least term in which a member knew of it.
type committed struct {
	node int
	term uint64
}

// machine is a member, or one that may become one, with its disk.
type machine struct {
	p    api.Peer
	path []int
	d    *disk.Disk
	w    *wal.Wal
}

// group is machines, some of which are members at first, that are saved ahead of what they send, and crash; the
// messages under way among them; and what P10.8, P11.6 and P14.5 say of all that was.
type group struct {
	t        *testing.T
	waits    func() int
	first    []int
	machines []*machine // the member k at k - 1
	flight   []string   // as bytes, as a network has them
	tree     tree
	alike    map[[2]uint64]int // by an index and a term: the log up to it
	done     []committed       // by an index
	led      map[uint64]int
	votes    map[[2]uint64]int // by a term and who voted in it
	begun    map[reader]int    // by who reads, in which term and round: how many were committed when it was begun
	data     int               // how many were proposed
	count    map[string]int
}

func newGroup(t *testing.T, size int, first []int, waits func() int) *group {
	g := &group{
		t: t, waits: waits, first: first, tree: tree{}, alike: map[[2]uint64]int{}, done: []committed{{}},
		led: map[uint64]int{}, votes: map[[2]uint64]int{}, begun: map[reader]int{}, count: map[string]int{},
	}
	for i := range size {
		p, e := vote.New(i+1, waits(), first...)
		if e != api.OK {
			t.Fatal(e)
		}
		m := &machine{p: p, path: []int{0}, d: disk.New(1 << 26)}
		if m.w, e = wal.Open(m.d, "w"); e != api.OK {
			t.Fatal(e)
		}
		g.machines = append(g.machines, m)
	}
	return g
}

func (g *group) at(id int) api.Peer { return g.machines[id-1].p }

// do saves what a step has made of a member, puts it in its place, and sends; and holds all of them to the promises.
func (g *group) do(step string, now api.Peer, sent []api.Msg, e api.Errno) {
	g.t.Helper()
	if e != api.OK {
		g.t.Fatalf("%s: %v", step, e)
	}
	m := g.machines[now.Id-1]
	follows(g.t, step, m.p, now, sent)
	if e := keep.Save(m.w, m.p, now); e != api.OK {
		g.t.Fatalf("%s: Save: %v", step, e)
	}
	g.become(step, m, now)
	for _, msg := range sent {
		g.checkVote(step, msg)
		s, e := vote.Bytes(msg)
		if e != api.OK {
			g.t.Fatalf("%s: %+v: %v", step, msg, e)
		}
		g.flight = append(g.flight, s)
	}
	if g.t.Failed() {
		g.t.FailNow()
	}
}

// become puts a member in its place.
func (g *group) become(step string, m *machine, now api.Peer) {
	g.t.Helper()
	if fault := sound(now, g.first); fault != "" {
		g.t.Fatalf("%s: %s: %+v", step, fault, now)
	}
	path := g.tree.path(now)
	if n := min(len(m.path), len(path)); len(path) < len(m.path) || !slices.Equal(m.path[:n], path[:n]) {
		g.count["cuts"]++
		if !slices.Equal(m.p.Members, now.Members) {
			g.count["members fall back"]++
		}
	}
	m.p, m.path = now, path
	g.checkAlike(step, m)
	g.checkDone(step, m)
	for _, m := range g.machines {
		g.checkLeader(step, m)
	}
}

// checkAlike: two logs that have an entry of one index and one term, whenever that was, are the same up to it.
func (g *group) checkAlike(step string, m *machine) {
	g.t.Helper()
	for i, l := range whole(m.p) {
		at := [2]uint64{uint64(i + 1), termOf(l)}
		if node, there := g.alike[at]; there && node != m.path[i+1] {
			g.t.Fatalf("%s: two logs have an entry %d of %d, and are not the same up to it: %+v", step, at[0], at[1], m.p)
		}
		g.alike[at] = m.path[i+1]
	}
}

// checkDone: two members' committed entries of one index are the same, whenever they were.
func (g *group) checkDone(step string, m *machine) {
	g.t.Helper()
	for i := uint64(1); i <= m.p.Commit; i++ {
		if i == uint64(len(g.done)) {
			g.done = append(g.done, committed{m.path[i], m.p.Term})
		}
		if g.done[i].node != m.path[i] {
			g.t.Fatalf("%s: two entries %d are committed: %+v", step, i, m.p)
		}
		g.done[i].term = min(g.done[i].term, m.p.Term)
	}
}

// checkLeader: one leads in a term; what was committed in an earlier one is in its log.
func (g *group) checkLeader(step string, m *machine) {
	g.t.Helper()
	p := m.p
	if p.Role != api.Leader {
		return
	}
	if was := g.led[p.Term]; was != 0 && was != p.Id {
		g.t.Fatalf("%s: %d and %d lead in %d", step, was, p.Id, p.Term)
	}
	g.led[p.Term] = p.Id
	for i, c := range g.done {
		if c.term < p.Term && (i >= len(m.path) || m.path[i] != c.node) {
			g.t.Fatalf("%s: the leader %d of %d has not what was committed at %d in %d: %+v", step, p.Id, p.Term, i, c.term, p)
		}
	}
}

// checkVote: a member grants one Ask of a term.
func (g *group) checkVote(step string, m api.Msg) {
	g.t.Helper()
	if m.Kind != api.Told || !m.Ok {
		return
	}
	at := [2]uint64{m.Term, uint64(m.From)}
	if was, there := g.votes[at]; there && was != m.To {
		g.t.Fatalf("%s: %d voted for %d and %d in %d", step, m.From, was, m.To, m.Term)
	}
	g.votes[at] = m.To
}

func (g *group) tick(id, draw int) {
	g.t.Helper()
	p, sent, e := logs.Tick(g.at(id), draw)
	g.do(fmt.Sprint("Tick of ", id), p, sent, e)
}

// stand lets ticks go by till a member campaigns, or has waited as long as any would.
func (g *group) stand(id, draw int) {
	g.t.Helper()
	for term := g.at(id).Term; g.at(id).Role != api.Leader && g.at(id).Term == term && g.at(id).Idle <= g.at(id).Wait; {
		g.tick(id, draw)
	}
}

// propose hands one data of its own: whether it leads.
func (g *group) propose(id int) bool {
	g.t.Helper()
	if g.at(id).Role != api.Leader {
		return false
	}
	g.data++
	p, _, e := logs.Propose(g.at(id), fmt.Sprint("command ", g.data))
	g.do(fmt.Sprint("Propose of ", id), p, nil, e)
	return true
}

// alter lets a leader have a member more, or less: what it answers.
func (g *group) alter(id, who int, in bool) api.Errno {
	g.t.Helper()
	step := fmt.Sprint(called(who, in), " by ", id)
	if e := inWords(g.t, step, g.at(id), who, in); e != api.OK {
		g.count[fmt.Sprint("refused, ", e)]++
		return e
	}
	p, _, e := alter(g.at(id), who, in)
	g.do(step, p, nil, e)
	g.count["changes"]++
	if !seats.Busy(p) {
		g.count["changes at once"]++
	}
	return api.OK
}

// quit lets a leader go that is no member any more: whether it went.
func (g *group) quit(id int) bool {
	g.t.Helper()
	p := g.at(id)
	want := copied(p)
	stood := wordsQuit(&want)
	quits(g.t, fmt.Sprint("Quit of ", id), p, want, stood)
	q, stood, e := seats.Quit(p)
	if stood {
		g.count["quits"]++
	}
	g.do(fmt.Sprint("Quit of ", id), q, nil, e)
	return stood
}

// read begins a reading: what it answers.
func (g *group) read(id int) api.Errno {
	g.t.Helper()
	step := fmt.Sprint("Read of ", id)
	if e := readInWords(g.t, step, g.at(id)); e != api.OK {
		return e
	}
	p, round, sent, e := seats.Read(g.at(id))
	g.begun[reader{id: id, term: p.Term, round: round}] = len(g.done) - 1
	g.do(step, p, sent, e)
	g.count["reads"]++
	return api.OK
}

// ready holds what is ready to P14.5: how many readings are.
func (g *group) ready(id int) int {
	g.t.Helper()
	m := g.machines[id-1]
	step := fmt.Sprint("Ready of ", id)
	want := copied(m.p)
	reads := wordsReady(&want)
	p := readyAs(g.t, step, m.p, want, reads)
	for _, r := range reads {
		n, there := g.begun[reader{id: id, term: p.Term, round: r.Round}]
		if !there || uint64(n) > r.Index {
			g.t.Fatalf("%s: %d were committed when %+v was begun: %+v", step, n, r, m.p)
		}
		for i := range n + 1 {
			if i >= len(m.path) || m.path[i] != g.done[i].node {
				g.t.Fatalf("%s: what was committed at %d when %+v was begun is not there: %+v", step, i, r, m.p)
			}
		}
		if r.Index >= m.p.Base && !slices.Equal(vote.Members(m.p, r.Index), m.p.Members) {
			g.count["ready with other members"]++
		}
	}
	g.count["ready"] += len(reads)
	g.do(step, p, nil, api.OK)
	return len(reads)
}

// compact cuts a log off: whether there is anything to cut.
func (g *group) compact(id int, to uint64) bool {
	g.t.Helper()
	p := g.at(id)
	if to <= p.Base || to > p.Commit {
		return false
	}
	q, e := trim.Compact(p, to, snapOf(p, to))
	g.do(fmt.Sprint("Compact of ", id), q, nil, e)
	g.count["compacts"]++
	return true
}

// send lets a leader send to one of the others, whatever its ticks say.
func (g *group) send(id, to int) {
	g.t.Helper()
	if m, e := logs.Send(g.at(id), to); e == api.OK {
		g.do(fmt.Sprint("Send of ", id), g.at(id), []api.Msg{m}, e)
	}
}

// took is what Step makes of a message that comes.
func (g *group) took(s string) (step string, p api.Peer, sent []api.Msg, e api.Errno) {
	g.t.Helper()
	m, e := vote.Read(s)
	if e != api.OK {
		g.t.Fatal(e)
	}
	from := g.at(m.To)
	p, sent, e = trim.Step(from, m)
	if m.Kind == api.Install && p.Base > from.Base {
		g.count["installed"]++
	}
	return fmt.Sprintf("Step of %+v", m), p, sent, e
}

func (g *group) take(s string) {
	g.t.Helper()
	step, p, sent, e := g.took(s)
	g.do(step, p, sent, e)
}

// half lets a message come to a machine that crashes on the way of saving what it becomes: nothing is sent.
func (g *group) half(r *rand.Rand, s string) {
	g.t.Helper()
	step, p, _, e := g.took(s)
	m := g.machines[p.Id-1]
	records, f := keep.Diff(m.p, p)
	if e != api.OK || f != api.OK {
		g.t.Fatalf("%s: %v, %v", step, e, f)
	}
	if _, e := m.w.Append(records[:r.Intn(len(records)+1)]...); e != api.OK {
		g.t.Fatalf("%s: Append: %v", step, e)
	}
	g.crash(r, p.Id)
}

// crash lets a machine forget all but what its disk keeps.
func (g *group) crash(r *rand.Rand, id int) {
	g.t.Helper()
	m := g.machines[id-1]
	g.count["crashes"]++
	m.d.Crash(r.Intn(m.d.Loose()+1), r.Intn(60))
	w, e := wal.Open(m.d, "w")
	if e != api.OK {
		g.t.Fatalf("Open: %v", e)
	}
	p, e := keep.Load(w, id, g.waits(), g.first...)
	if e != api.OK || p.Term < m.p.Term {
		g.t.Fatalf("Load: %+v, %v", p, e)
	}
	m.w = w
	g.become(fmt.Sprint("a crash of ", id), m, p)
}

// weather is how messages fare for a while: how many of a hundred are lost, and come and stay; and who is parted.
type weather struct {
	lost, doubled, crash int
	apart                []int
}

func drawnWeather(r *rand.Rand, size int) weather {
	w := weather{lost: []int{0, 10, 40}[r.Intn(3)], doubled: []int{0, 20}[r.Intn(2)], crash: []int{0, 0, 3}[r.Intn(3)]}
	if r.Intn(2) == 0 {
		w.apart = r.Perm(size)[:r.Intn(size/2+1)]
	}
	return w
}

// parts says whether a message has to wait.
func (w weather) parts(m api.Msg) bool {
	return slices.Contains(w.apart, m.From-1) != slices.Contains(w.apart, m.To-1)
}

// step does one thing that may come about.
func (g *group) step(r *rand.Rand, w weather) {
	g.t.Helper()
	id := 1 + r.Intn(len(g.machines))
	if l := g.leaders(); len(l) > 0 && r.Intn(3) == 0 {
		id = l[r.Intn(len(l))]
	}
	p := g.at(id)
	switch what := r.Intn(100); {
	case what == 0 && r.Intn(4) == 0:
		q, e := vote.Down(p, p.Term+uint64(r.Intn(2)))
		g.do("Down", q, nil, e)
	case what == 1 && w.crash > 0:
		g.crash(r, id)
	case what < 4:
		g.send(id, 1+r.Intn(len(g.machines)))
	case what < 9:
		g.propose(id)
	case what < 17:
		g.alter(id, 1+r.Intn(len(g.machines)), r.Intn(2) == 0)
	case what < 19:
		g.quit(id)
	case what < 24:
		g.read(id)
	case what < 29:
		g.ready(id)
	case what < 33:
		g.compact(id, p.Base+1+uint64(r.Intn(int(p.Commit-p.Base)+1)))
	case what == 33:
		if e := keep.Trim(g.machines[id-1].w, p); e != api.OK {
			g.t.Fatalf("Trim: %v", e)
		}
	case what < 36:
		g.stand(id, r.Intn(100))
	case what < 50 || len(g.flight) == 0:
		g.tick(id, r.Intn(100))
	default:
		g.comes(r, w)
	}
	if len(g.flight) > 60 {
		g.flight = slices.Delete(g.flight, 0, 20)
	}
}

// leaders is all that lead, each in a term of its own.
func (g *group) leaders() []int {
	var out []int
	for _, m := range g.machines {
		if m.p.Role == api.Leader {
			out = append(out, m.p.Id)
		}
	}
	return out
}

// comes lets one message of those under way fare as the weather is.
func (g *group) comes(r *rand.Rand, w weather) {
	g.t.Helper()
	i := r.Intn(len(g.flight))
	s := g.flight[i]
	if m, _ := vote.Read(s); w.parts(m) {
		return
	}
	if r.Intn(100) >= w.doubled {
		g.flight = slices.Delete(g.flight, i, i+1)
	}
	switch {
	case r.Intn(100) < w.crash:
		g.half(r, s)
	case r.Intn(100) >= w.lost:
		g.take(s)
	}
}

// P14.4, P14.5, P0.6: machines by ticks, proposals, members that come and go, readings, logs that are cut off,
// snapshots and other messages that are lost, doubled and turned round, machines that are parted and that crash: one
// leader a term, logs are alike up to a common entry, what is committed stays, everywhere, and a reading that is ready
// stands at or behind all that was committed when it was begun.
func TestGroups(t *testing.T) {
	r := draws()
	for size := 1; size <= 6; size++ {
		all := map[string]int{}
		for range 16 {
			first := drawnGroup(r, size)
			g := newGroup(t, size, first, func() int { return 1 + r.Intn(20) })
			for range 12 {
				w := drawnWeather(r, size)
				for range 60 * size {
					g.step(r, w)
				}
			}
			for what, n := range g.count {
				all[what] += n
			}
			all["commits"] += len(g.done) - 1
			all["terms"] += len(g.led)
		}
		t.Logf("%d machines: %v", size, all)
		least := map[string]int{"commits": 200, "compacts": 100, "crashes": 20, "reads": 100, "ready": 100}
		if size > 1 {
			least["terms"], least["changes"], least["quits"], least["refused, error 141"], least["refused, error 142"] = 50, 50, 5, 50, 50
		}
		if size > 2 {
			least["cuts"], least["installed"], least["members fall back"], least["ready with other members"] = 10, 10, 3, 1
		}
		for what, n := range least {
			if all[what] < n {
				t.Errorf("%d machines: %s %d times of %v", size, what, all[what], all)
			}
		}
	}
}
