package trim_test

import (
	"fmt"
	"slices"
	"strings"
	"testing"

	"tessera/api"
	"tessera/keep"
	"tessera/logs"
	"tessera/trim"
	"tessera/vote"
)

// world is all members and all messages that were ever sent: each of them may come at any time, again and again, or
// never.
type world struct {
	peers []api.Peer
	texts []string // of the members
	sent  []string
}

func (w world) key() string { return strings.Join(w.texts, "") + strings.Join(w.sent, "|") }

// next is another world, with a member and messages more. Idle tells nothing here, as ticks come in rows.
func (w world) next(p api.Peer, sent ...api.Msg) world {
	out := world{slices.Clone(w.peers), slices.Clone(w.texts), slices.Clone(w.sent)}
	p.Idle, p.Wait = 0, 10
	out.peers[p.Id-1], out.texts[p.Id-1] = p, fmt.Sprintf("%+v", p)
	for _, m := range sent {
		s, _ := vote.Bytes(m)
		if at, there := slices.BinarySearch(out.sent, s); !there {
			out.sent = slices.Insert(out.sent, at, s)
		}
	}
	return out
}

// bounds is how far a world goes: up to a term, with logs of so many entries; so many of the members campaign; with
// crashes or not.
type bounds struct {
	size    int
	stand   int
	entries uint64
	term    uint64
	crashes bool
}

// steps is all worlds that one step makes of a world: a campaign, a proposal, a cut, a crash, what a leader sends, a
// message that comes.
func (w world) steps(t *testing.T, b bounds) []world {
	var out []world
	for _, p := range w.peers {
		if p.Role == api.Leader {
			if lastOf(p) < b.entries {
				q, _, _ := logs.Propose(p, "x")
				out = append(out, w.next(q))
			}
			for _, f := range p.Follows {
				m, _ := logs.Send(p, f.Id)
				out = append(out, w.next(p, m))
			}
		} else if p.Id <= b.stand && p.Term < b.term && lastOf(p) < b.entries {
			p.Idle, p.Wait = 10, 10
			q, sent, _ := logs.Tick(p, 0)
			out = append(out, w.next(q, sent...))
		}
		for to := p.Base + 1; to <= p.Commit; to++ {
			q, e := trim.Compact(p, to, snapOf(p, to))
			if e != api.OK {
				t.Fatalf("Compact of %+v: %v", p, e)
			}
			out = append(out, w.next(q))
		}
		if b.crashes {
			out = append(out, w.next(keep.Kept(p)))
		}
	}
	for _, s := range w.sent {
		m, _ := vote.Read(s)
		p, sent, e := trim.Step(w.peers[m.To-1], m)
		if e != api.OK {
			t.Fatalf("Step of %+v: %v", m, e)
		}
		out = append(out, w.next(p, sent...))
	}
	return out
}

// same is how many entries two logs have in common from their beginnings on.
func same(a, b []string) int {
	n := 0
	for n < min(len(a), len(b)) && a[n] == b[n] {
		n++
	}
	return n
}

// holds says what of P10.8 and P11.6 does not hold in a world.
func (w world) holds() string {
	var group []int
	for id := range w.peers {
		group = append(group, id+1)
	}
	for _, p := range w.peers {
		if fault := sound(p, group); fault != "" {
			return fault
		}
		a := whole(p)
		for _, q := range w.peers {
			b := whole(q)
			n := same(a, b)
			for i := n; i < min(len(a), len(b)); i++ {
				if termOf(a[i]) == termOf(b[i]) {
					return "an entry of one index and one term, and logs that are not the same up to it"
				}
			}
			switch {
			case n < int(min(p.Commit, q.Commit)):
				return "two entries that are committed at one index"
			case p.Role == api.Leader && q.Role == api.Leader && p.Term == q.Term && p.Id != q.Id:
				return "two leaders in one term"
			case p.Role == api.Leader && q.Term <= p.Term && n < int(q.Commit): // what was committed in the leader's own term is its own
				return "a leader that has not what was committed"
			}
		}
	}
	return ""
}

// P13.4: of small groups all that may come about, up to a term and a length of the logs, with each cut and each
// Install.
func TestWorlds(t *testing.T) {
	for _, b := range []bounds{{1, 1, 3, 3, true}, {2, 2, 2, 2, false}, {2, 2, 2, 1, true}, {3, 1, 1, 1, true}, {3, 2, 1, 1, false}} {
		w := world{}
		for id := range b.size {
			p, e := vote.New(id+1, 10, []int{1, 2, 3}[:b.size]...)
			if e != api.OK {
				t.Fatal(e)
			}
			w.peers, w.texts = append(w.peers, p), append(w.texts, fmt.Sprintf("%+v", p))
		}
		seen := map[string]struct{}{w.key(): {}}
		cut := 0
		for row := []world{w}; len(row) > 0; {
			w, row = row[0], row[1:]
			for _, next := range w.steps(t, b) {
				key := next.key()
				if _, there := seen[key]; there {
					continue
				}
				seen[key] = struct{}{}
				if fault := next.holds(); fault != "" {
					t.Fatalf("%s: %+v", fault, next.peers)
				}
				if slices.ContainsFunc(next.peers, func(p api.Peer) bool { return p.Base > 0 }) {
					cut++
				}
				row = append(row, next)
			}
		}
		if cut == 0 {
			t.Errorf("%+v: nothing is cut off", b)
		}
		t.Logf("%+v: %d worlds, %d with logs that are cut off", b, len(seen), cut)
	}
}
