package seats_test

import (
	"fmt"
	"slices"
	"strings"
	"testing"

	"tessera/api"
	"tessera/keep"
	"tessera/logs"
	"tessera/seats"
	"tessera/trim"
	"tessera/vote"
)

// world is all machines, members or not, and all messages that were ever sent: each of them may come at any time, again
// and again, or never; and of each reading that waits what was committed anywhere when it was begun.
type world struct {
	peers []api.Peer
	texts []string // of the members
	sent  []string
	begun []reader
}

// reader is a reading of a leader that waits, and how many entries were committed when it was begun.
type reader struct {
	id          int
	term, round uint64
	done        int
}

func (w world) key() string {
	return strings.Join(w.texts, "") + strings.Join(w.sent, "|") + fmt.Sprint(w.begun)
}

// next is another world, with a member and messages more. Idle tells nothing here, as ticks come in rows.
func (w world) next(p api.Peer, sent ...api.Msg) world {
	out := world{slices.Clone(w.peers), slices.Clone(w.texts), slices.Clone(w.sent), nil}
	p.Idle, p.Wait = 0, 10
	out.peers[p.Id-1], out.texts[p.Id-1] = p, fmt.Sprintf("%+v", p)
	for _, m := range sent {
		s, _ := vote.Bytes(m)
		if at, there := slices.BinarySearch(out.sent, s); !there {
			out.sent = slices.Insert(out.sent, at, s)
		}
	}
	for _, b := range w.begun {
		waits := func(r api.Read) bool { return r.Round == b.round }
		if q := out.peers[b.id-1]; q.Term == b.term && slices.ContainsFunc(q.Reads, waits) {
			out.begun = append(out.begun, b)
		}
	}
	return out
}

// done is how many entries are committed, as far as anybody knows.
func (w world) done() int {
	out := 0
	for _, p := range w.peers {
		out = max(out, int(p.Commit))
	}
	return out
}

// bounds is how far a world goes: of so many machines those of the group are members at first; so many of them
// campaign, up to a term, with logs of so many entries and so many readings a term; with crashes, cuts, or not.
type bounds struct {
	size    int
	group   []int
	stand   int
	entries uint64
	term    uint64
	rounds  uint64
	crashes bool
	cuts    bool
}

// steps is all worlds that one step makes of a world: what a leader does, a campaign, a cut, a crash, a message that
// comes.
func (w world) steps(t *testing.T, b bounds) []world {
	var out []world
	for _, p := range w.peers {
		if p.Role == api.Leader {
			out = append(out, w.leads(t, b, p)...)
		} else if p.Id <= b.stand && p.Term < b.term && lastOf(p) < b.entries {
			p.Idle, p.Wait = 10, 10
			q, sent, _ := logs.Tick(p, 0)
			out = append(out, w.next(q, sent...))
		}
		for to := p.Base + 1; b.cuts && to <= p.Commit; to++ {
			q, e := trim.Compact(p, to, snapOf(p, to))
			if e != api.OK {
				t.Fatalf("Compact of %+v: %v", p, e)
			}
			out = append(out, w.next(q))
		}
		if b.crashes {
			out = append(out, w.next(keep.Kept(p)))
		}
	}
	for _, s := range w.sent {
		m, _ := vote.Read(s)
		p, sent, e := trim.Step(w.peers[m.To-1], m)
		if e != api.OK {
			t.Fatalf("Step of %+v: %v", m, e)
		}
		out = append(out, w.next(p, sent...))
	}
	return out
}

// leads is all worlds that a leader makes by itself.
func (w world) leads(t *testing.T, b bounds, p api.Peer) []world {
	var out []world
	if lastOf(p) < b.entries {
		q, _, _ := logs.Propose(p, "x")
		out = append(out, w.next(q))
		for id := range b.size {
			for _, in := range []bool{true, false} {
				if q, _, e := alter(p, id+1, in); e == api.OK {
					out = append(out, w.next(q))
				}
			}
		}
	}
	for _, f := range p.Follows {
		m, _ := logs.Send(p, f.Id)
		out = append(out, w.next(p, m))
	}
	if q, stood, e := seats.Quit(p); e != api.OK || stood {
		out = append(out, w.next(q))
	}
	if p.Round < b.rounds {
		if q, round, sent, e := seats.Read(p); e == api.OK {
			next := w.next(q, sent...)
			next.begun = append(next.begun, reader{p.Id, p.Term, round, w.done()})
			out = append(out, next)
		}
	}
	if q, l, e := seats.Ready(p); len(l) > 0 || e != api.OK {
		for _, r := range l {
			if fault := w.late(p, r); fault != "" {
				t.Fatalf("%s: %+v: %+v", fault, r, w)
			}
		}
		out = append(out, w.next(q))
	}
	return out
}

// late says what of P14.5 does not hold of a reading that is ready.
func (w world) late(p api.Peer, r api.Read) string {
	at := slices.IndexFunc(w.begun, func(b reader) bool { return b.id == p.Id && b.term == p.Term && b.round == r.Round })
	switch {
	case at < 0:
		return "a reading that was not begun"
	case uint64(w.begun[at].done) > r.Index:
		return "something was committed above a reading's index when it was begun"
	}
	return ""
}

// same is how many entries two logs have in common from their beginnings on.
func same(a, b []string) int {
	n := 0
	for n < min(len(a), len(b)) && a[n] == b[n] {
		n++
	}
	return n
}

// holds says what of P10.8 and P11.6 does not hold in a world.
func (w world) holds(group []int) string {
	for _, p := range w.peers {
		if fault := sound(p, group); fault != "" {
			return fault
		}
		a := whole(p)
		for _, q := range w.peers {
			b := whole(q)
			n := same(a, b)
			for i := n; i < min(len(a), len(b)); i++ {
				if termOf(a[i]) == termOf(b[i]) {
					return "an entry of one index and one term, and logs that are not the same up to it"
				}
			}
			switch {
			case n < int(min(p.Commit, q.Commit)):
				return "two entries that are committed at one index"
			case p.Role == api.Leader && q.Role == api.Leader && p.Term == q.Term && p.Id != q.Id:
				return "two leaders in one term"
			case p.Role == api.Leader && q.Term <= p.Term && n < int(q.Commit): // what was committed in the leader's own term is its own
				return "a leader that has not what was committed"
			}
		}
	}
	return ""
}

// P14.4, P14.5: of small groups all that may come about, up to a term and a length of the logs, with each change of
// members, each reading, and each Quit.
func TestWorlds(t *testing.T) {
	for _, b := range []bounds{
		{size: 2, group: []int{1}, stand: 2, entries: 3, term: 1, rounds: 1},
		{size: 2, group: []int{1}, stand: 2, entries: 4, term: 2},
		{size: 2, group: []int{1, 2}, stand: 2, entries: 2, term: 2, rounds: 1},
		{size: 2, group: []int{1, 2}, stand: 1, entries: 3, term: 1, crashes: true},
		{size: 2, group: []int{1, 2}, stand: 1, entries: 3, term: 1, cuts: true},
		{size: 3, group: []int{1}, stand: 2, entries: 3, term: 2},
		{size: 3, group: []int{1, 2}, stand: 2, entries: 2, term: 1},
		{size: 3, group: []int{1, 2}, stand: 1, entries: 2, term: 1, rounds: 1},
	} {
		t.Run(fmt.Sprintf("%+v", b), func(t *testing.T) {
			t.Parallel()
			goOver(t, b)
		})
	}
}

// goOver holds all worlds within bounds to the promises.
func goOver(t *testing.T, b bounds) {
	w := world{}
	for id := range b.size {
		p, e := vote.New(id+1, 10, b.group...)
		if e != api.OK {
			t.Fatal(e)
		}
		w.peers, w.texts = append(w.peers, p), append(w.texts, fmt.Sprintf("%+v", p))
	}
	seen := map[string]struct{}{w.key(): {}}
	count := map[string]int{}
	for row := []world{w}; len(row) > 0; {
		w, row = row[0], row[1:]
		for _, next := range w.steps(t, b) {
			key := next.key()
			if _, there := seen[key]; there {
				continue
			}
			seen[key] = struct{}{}
			if fault := next.holds(b.group); fault != "" {
				t.Fatalf("%s: %+v", fault, next.peers)
			}
			next.tell(count, b.group)
			row = append(row, next)
		}
	}
	t.Logf("%d worlds, %v", len(seen), count)
	if count["changed"] == 0 || count["committed"] == 0 || b.rounds > 0 && count["reading"] == 0 {
		t.Errorf("what comes about tells little: %v", count)
	}
}

// tell counts what there is in a world.
func (w world) tell(count map[string]int, group []int) {
	for _, p := range w.peers {
		if !slices.Equal(p.Members, group) {
			count["changed"]++
		}
		if !slices.Equal(vote.Members(p, p.Commit), group) {
			count["committed"]++
		}
		count["reading"] += len(p.Reads)
	}
}
