package logs_test

import (
	"fmt"
	"slices"
	"strings"
	"testing"

	"tessera/api"
	"tessera/logs"
	"tessera/vote"
)

// world is all members and all messages that were ever sent: each of them may come at any time, again and again, or
// never.
type world struct {
	peers []api.Peer
	sent  []string
}

func (w world) key() string { return fmt.Sprintf("%+v", w.peers) + strings.Join(w.sent, "|") }

// next is another world, with a member and messages more. Idle tells nothing here, as ticks come in rows.
func (w world) next(p api.Peer, sent ...api.Msg) world {
	out := world{slices.Clone(w.peers), slices.Clone(w.sent)}
	p.Idle, p.Wait = 0, 10
	out.peers[p.Id-1] = p
	for _, m := range sent {
		s, _ := vote.Bytes(m)
		if at, there := slices.BinarySearch(out.sent, s); !there {
			out.sent = slices.Insert(out.sent, at, s)
		}
	}
	return out
}

// bounds is how far a world goes: up to a term, with logs of so many entries.
type bounds struct {
	size, entries int
	term          uint64
}

// steps is all worlds that one step makes of a world: a campaign, a proposal, what a leader sends, a message that comes.
func (w world) steps(t *testing.T, b bounds) []world {
	var out []world
	for _, p := range w.peers {
		if p.Role == api.Leader {
			if len(p.Log) < b.entries {
				q, _, _ := logs.Propose(p, "x")
				out = append(out, w.next(q))
			}
			for _, f := range p.Follows {
				m, _ := logs.Send(p, f.Id)
				out = append(out, w.next(p, m))
			}
		} else if p.Term < b.term && len(p.Log) < b.entries {
			p.Idle, p.Wait = 10, 10
			q, sent, _ := logs.Tick(p, 0)
			out = append(out, w.next(q, sent...))
		}
	}
	for _, s := range w.sent {
		m, _ := vote.Read(s)
		take := logs.Take
		if m.Kind == api.Ask || m.Kind == api.Told {
			take = vote.Take
		}
		p, sent, e := take(w.peers[m.To-1], m)
		if e != api.OK {
			t.Fatalf("Take of %+v: %v", m, e)
		}
		out = append(out, w.next(p, sent...))
	}
	return out
}

// same is how many entries two logs have in common from their beginnings on.
func same(a, b []api.Entry) int {
	n := 0
	for n < min(len(a), len(b)) && equalLog(a[n:n+1], b[n:n+1]) {
		n++
	}
	return n
}

// holds says what of P11.6 does not hold in a world.
func (w world) holds() string {
	for _, p := range w.peers {
		if vote.May(p) != api.OK {
			return "a member that may not be"
		}
		for _, q := range w.peers {
			n := same(p.Log, q.Log)
			for i := n; i < min(len(p.Log), len(q.Log)); i++ {
				if p.Log[i].Term == q.Log[i].Term {
					return "an entry of one index and one term, and logs that are not the same up to it"
				}
			}
			if n < int(min(p.Commit, q.Commit)) {
				return "two entries that are committed at one index"
			}
			// what was committed in the leader's own term is its own
			if p.Role == api.Leader && q.Term <= p.Term && n < int(q.Commit) {
				return "a leader that has not what was committed"
			}
		}
	}
	return ""
}

// P11.5, P11.6: of small groups all that may come about, up to a term and a length of the logs.
func TestWorlds(t *testing.T) {
	for _, b := range []bounds{{1, 4, 3}, {2, 2, 2}, {3, 1, 1}} {
		w := world{}
		for id := range b.size {
			p, e := vote.New(id+1, 10, []int{1, 2, 3}[:b.size]...)
			if e != api.OK {
				t.Fatal(e)
			}
			w.peers = append(w.peers, p)
		}
		seen := map[string]struct{}{w.key(): {}}
		commits := 0
		for row := []world{w}; len(row) > 0; {
			w, row = row[0], row[1:]
			for _, next := range w.steps(t, b) {
				key := next.key()
				if _, there := seen[key]; there {
					continue
				}
				seen[key] = struct{}{}
				if fault := next.holds(); fault != "" {
					t.Fatalf("%s: %+v", fault, next.peers)
				}
				if slices.ContainsFunc(next.peers, func(p api.Peer) bool { return p.Commit > 0 }) {
					commits++
				}
				row = append(row, next)
			}
		}
		if commits == 0 {
			t.Errorf("%+v: nothing is committed", b)
		}
		t.Logf("%+v: %d worlds, %d with commits", b, len(seen), commits)
	}
}
