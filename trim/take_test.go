package trim_test

import (
	"fmt"
	"math"
	"slices"
	"strings"
	"testing"

	"tessera/api"
	"tessera/trim"
	"tessera/vote"
)

// installOf is an Install of 1 to 2 in the term 6, with the Round 7, up to an index.
func installOf(index, term uint64) api.Msg {
	return api.Msg{
		Kind: api.Install, From: 1, To: 2, Term: 6, Index: index, LogTerm: term, Round: 7,
		Members: []int{1, 2, 3, 4}, Snap: "given",
	}
}

// answers is a Heard of 2 to 1.
func answers(term uint64, ok bool, index, round uint64) []api.Msg {
	return []api.Msg{{Kind: api.Heard, From: 2, To: 1, Term: term, Ok: ok, Index: index, Round: round}}
}

// led is a change of a follower that knows of 1 that it leads.
func led(p api.Peer, to func(p *api.Peer)) api.Peer {
	return with(p, func(p *api.Peer) {
		p.Role, p.Votes, p.Follows, p.Reads = api.Follower, nil, nil, nil
		p.Lead, p.Idle = 1, 0
		to(p)
	})
}

func asIs(*api.Peer) {}

// given is a change by which a snapshot has come, with entries behind it and the members as of the last one.
func given(m api.Msg, members []int, log ...api.Entry) func(p *api.Peer) {
	return func(p *api.Peer) {
		p.Base, p.BaseTerm, p.BaseMembers, p.Snap, p.Commit = m.Index, m.LogTerm, m.Members, m.Snap, m.Index
		p.Log, p.Members = log, members
	}
}

// P13.2: an Install of a Term below its own changes nothing, whatever it has: a Heard of its Term, with its last index
// and the Round 0.
func TestTakeBelow(t *testing.T) {
	for name, p := range roles() {
		for _, term := range []uint64{5, 3, 1} {
			for _, index := range []uint64{1, 4, 8, 9, 10, 11, 99, top} {
				m := withMsg(installOf(index, 1), func(m *api.Msg) { m.Term = term })
				got, sent, e := trim.Take(p, m)
				stepped(t, fmt.Sprint(name, ", Term ", term, ", up to ", index), p, got, sent, e, p, answers(6, false, 10, 0))
			}
		}
	}
	p := with(fresh(), func(p *api.Peer) { p.Term = 2 })
	got, sent, e := trim.Take(p, withMsg(installOf(3, 1), func(m *api.Msg) { m.Term = 1 }))
	stepped(t, "an empty log", p, got, sent, e, p, answers(2, false, 0, 0))
	p = with(follower(), func(p *api.Peer) { p.Log, p.Members, p.Commit = nil, []int{1, 2, 3}, 4 })
	got, sent, e = trim.Take(p, withMsg(installOf(9, 1), func(m *api.Msg) { m.Term = 5 }))
	stepped(t, "nothing behind a snapshot", p, got, sent, e, p, answers(6, false, 4, 0))
}

// P13.2: a leader does nothing by an Install of its own Term; it stands down to a later one, and takes it, as each
// other one does.
func TestTakeLeader(t *testing.T) {
	for _, index := range []uint64{1, 4, 5, 8, 9, 10, 11, 99, top} {
		got, sent, e := trim.Take(leader(), installOf(index, 5))
		stepped(t, fmt.Sprint("its own Term, up to ", index), leader(), got, sent, e, leader(), nil)
	}
	for _, term := range []uint64{7, 99, top} {
		for name, p := range roles() {
			later := func(to func(p *api.Peer)) api.Peer {
				return led(p, func(p *api.Peer) {
					p.Term, p.Vote = term, 0
					to(p)
				})
			}
			m := withMsg(installOf(8, 5), func(m *api.Msg) { m.Term = term })
			got, sent, e := trim.Take(p, m)
			stepped(t, fmt.Sprint(name, ", Term ", term, ", committed"), p, got, sent, e, later(asIs), answers(term, true, 8, 7))
			m.Index = 9
			got, sent, e = trim.Take(p, m)
			stepped(t, fmt.Sprint(name, ", Term ", term, ", there"), p, got, sent, e, later(given(m, m.Members, p.Log[5])), answers(term, true, 9, 7))
			m.Index, m.LogTerm = 40, term
			got, sent, e = trim.Take(p, m)
			stepped(t, fmt.Sprint(name, ", Term ", term, ", not there"), p, got, sent, e, later(given(m, m.Members)), answers(term, true, 40, 7))
		}
	}
}

// P13.2: by an Install of its own Term a follower hears of who leads, whether or not it has all of it already; a
// candidate stands down; the vote stays.
func TestTakeStandsDown(t *testing.T) {
	for name, p := range map[string]api.Peer{
		"a follower": follower(), "a candidate": candidate(),
		"a follower of nobody": with(follower(), func(p *api.Peer) { p.Lead, p.Vote = 0, 0 }),
		"a follower of itself": with(follower(), func(p *api.Peer) { p.Lead, p.Vote = 2, 2 }),
		"one that was to wait": with(follower(), func(p *api.Peer) { p.Idle = 11 }),
	} {
		got, sent, e := trim.Take(p, installOf(6, 3))
		stepped(t, name+", committed", p, got, sent, e, led(p, asIs), answers(6, true, 8, 7))
		m := installOf(11, 6)
		got, sent, e = trim.Take(p, m)
		stepped(t, name+", not there", p, got, sent, e, led(p, given(m, m.Members)), answers(6, true, 11, 7))
	}
	m := withMsg(installOf(8, 5), func(m *api.Msg) { m.From = 64 }) // from one that is no member: nothing says that it must be one
	got, sent, e := trim.Take(follower(), m)
	want := with(follower(), func(p *api.Peer) { p.Lead, p.Idle = 64, 0 })
	wantSent := answers(6, true, 8, 7)
	wantSent[0].To = 64
	stepped(t, "from no member", follower(), got, sent, e, want, wantSent)
}

// P13.2: up to an index at or below Commit nothing of the log changes, whatever LogTerm, Members and Snap are: a Heard
// with Commit.
func TestTakeCommitted(t *testing.T) {
	for commit := uint64(4); commit <= 10; commit++ {
		p := with(follower(), func(p *api.Peer) { p.Commit = commit })
		for index := uint64(1); index <= commit; index++ {
			for _, term := range []uint64{1, 2, 3, 5, 6} {
				for _, round := range []uint64{0, 3, 9, top} {
					m := withMsg(installOf(index, term), func(m *api.Msg) { m.Round = round })
					got, sent, e := trim.Take(p, m)
					stepped(t, fmt.Sprint("up to ", index, " of ", commit), p, got, sent, e, led(p, asIs), answers(6, true, commit, round))
				}
			}
		}
	}
}

// P13.2: an index above Commit that it has with that LogTerm: those behind it stay, whatever they are.
func TestTakeThere(t *testing.T) {
	own := follower().Log
	for commit := uint64(4); commit <= 9; commit++ {
		p := with(follower(), func(p *api.Peer) { p.Commit = commit })
		for index := commit + 1; index <= 10; index++ {
			m := installOf(index, own[index-5].Term)
			members := []int{1, 2, 3, 5} // by the entry 9, if it is behind the snapshot
			if index >= 9 {
				members = m.Members
			}
			got, sent, e := trim.Take(p, m)
			want := led(p, given(m, members, own[index-4:]...))
			stepped(t, fmt.Sprint("up to ", index, ", committed up to ", commit), p, got, sent, e, want, answers(6, true, index, 7))
		}
	}
}

// P13.2: an index above Commit at which it has another term, or none: all entries go.
func TestTakeNotThere(t *testing.T) {
	terms := map[uint64]uint64{5: 2, 6: 3, 7: 5, 8: 5, 9: 5, 10: 6}
	for commit := uint64(4); commit <= 10; commit++ {
		p := with(follower(), func(p *api.Peer) { p.Commit = commit })
		for _, index := range []uint64{5, 6, 7, 8, 9, 10, 11, 12, 1000, top} {
			for term := uint64(1); term <= 6; term++ {
				if index <= commit || terms[index] == term {
					continue
				}
				m := installOf(index, term)
				got, sent, e := trim.Take(p, m)
				stepped(t, fmt.Sprint("up to ", index, " of ", term), p, got, sent, e, led(p, given(m, m.Members)), answers(6, true, index, 7))
			}
		}
	}
	m := installOf(3, 2)
	got, sent, e := trim.Take(fresh(), m)
	want := led(fresh(), func(p *api.Peer) {
		p.Term = 6
		given(m, m.Members)(p)
	})
	stepped(t, "a new one", fresh(), got, sent, e, want, answers(6, true, 3, 7))
}

// P13.2: Members are as of the last entry then: the snapshot's, unless a Seats entry is behind it; who takes it need
// not be among them.
func TestTakeMembers(t *testing.T) {
	seats := func(ids ...int) api.Entry { return api.Entry{Term: 5, Kind: api.Seats, Members: ids} }
	plain := api.Entry{Term: 5, Data: "x"}
	for _, c := range []struct {
		name string
		log  []api.Entry // from 5 on; the snapshot is up to 6
		term uint64
		want []int
	}{
		{"none behind", []api.Entry{plain, plain, plain}, 5, []int{7, 9}},
		{"one ahead", []api.Entry{seats(1, 2), plain, plain}, 5, []int{7, 9}},
		{"one at the index", []api.Entry{plain, seats(1, 2), plain}, 5, []int{7, 9}},
		{"one behind", []api.Entry{plain, plain, seats(1, 2), plain}, 5, []int{1, 2}},
		{"two behind", []api.Entry{plain, plain, seats(1, 2), seats(2), plain}, 5, []int{2}},
		{"one behind that goes", []api.Entry{plain, plain, seats(1, 2)}, 4, []int{7, 9}},
		{"none behind, the last one", []api.Entry{plain, seats(1, 2)}, 5, []int{7, 9}},
		{"not so far", []api.Entry{seats(1, 2)}, 5, []int{7, 9}},
	} {
		p := with(follower(), func(p *api.Peer) { p.Log, p.Commit = c.log, 4 })
		p.Members = seatedAt(p, lastOf(p))
		m := withMsg(installOf(6, c.term), func(m *api.Msg) { m.Members = []int{7, 9} })
		got, sent, e := trim.Take(p, m)
		var stay []api.Entry
		if len(c.log) > 2 && c.term == 5 {
			stay = c.log[2:]
		}
		stepped(t, c.name, p, got, sent, e, led(p, given(m, c.want, stay...)), answers(6, true, 6, 7))
	}
}

// P13.2: a snapshot of any bytes and of any length is taken, as a message may have it.
func TestTakeSnap(t *testing.T) {
	for _, snap := range []string{"", "\x00", "\xff\xfe", strings.Repeat("y", longest), strings.Repeat("y", longest+1), strings.Repeat("y", 1<<21)} {
		m := withMsg(installOf(11, 6), func(m *api.Msg) { m.Snap = snap })
		got, sent, e := trim.Take(follower(), m)
		if e != api.OK || got.Snap != snap || got.Base != 11 || !equalMsgs(sent, answers(6, true, 11, 7)) {
			t.Errorf("a snapshot of %d bytes: Base %d, %+v, %v", len(snap), got.Base, sent, e)
		}
	}
}

// P13.2: the same Install again, and an elder one behind it, is answered with what is committed then, and changes
// nothing.
func TestTakeAgain(t *testing.T) {
	for name, p := range roles() {
		m := withMsg(installOf(9, 5), func(m *api.Msg) { m.Term = 7 })
		once, _, e := trim.Take(p, m)
		if e != api.OK {
			t.Fatalf("%s: %v", name, e)
		}
		for _, again := range []api.Msg{m, withMsg(m, func(m *api.Msg) { m.Index, m.Snap = 8, "elder" })} {
			got, sent, e := trim.Take(once, again)
			stepped(t, name+", again", once, got, sent, e, once, answers(7, true, 9, 7))
		}
	}
}

// wrongMsgs is messages that may not be, or that are none for 2.
func wrongMsgs() map[string]api.Msg {
	out := map[string]api.Msg{"zero": {}}
	for what, to := range map[string]func(m *api.Msg){
		"to another one":           func(m *api.Msg) { m.To = 3 },
		"to no member":             func(m *api.Msg) { m.To = 0 },
		"to far too high a number": func(m *api.Msg) { m.To = 65 },
		"from itself":              func(m *api.Msg) { m.From = 2 },
		"from no member":           func(m *api.Msg) { m.From = 65 },
		"from below":               func(m *api.Msg) { m.From = -1 },
		"of Term 0":                func(m *api.Msg) { m.Term, m.LogTerm = 0, 0 },
		"of a Term too high":       func(m *api.Msg) { m.Term = top + 1 },
		"of the Index 0":           func(m *api.Msg) { m.Index = 0 },
		"of an Index too high":     func(m *api.Msg) { m.Index = top + 1 },
		"of the LogTerm 0":         func(m *api.Msg) { m.LogTerm = 0 },
		"of a LogTerm above":       func(m *api.Msg) { m.LogTerm = m.Term + 1 },
		"of a Round too high":      func(m *api.Msg) { m.Round = top + 1 },
		"with a Commit":            func(m *api.Msg) { m.Commit = 1 },
		"with Ok":                  func(m *api.Msg) { m.Ok = true },
		"with entries":             func(m *api.Msg) { m.Entries = []api.Entry{{Term: 6}} },
		"without members":          func(m *api.Msg) { m.Members = nil },
		"members that fall":        func(m *api.Msg) { m.Members = []int{2, 1} },
		"members that are none":    func(m *api.Msg) { m.Members = []int{0, 1} },
		"members twice":            func(m *api.Msg) { m.Members = []int{1, 1} },
		"a member too high":        func(m *api.Msg) { m.Members = []int{1, 65} },
		"of no kind":               func(m *api.Msg) { m.Kind = api.NoMsg },
		"of an unknown kind":       func(m *api.Msg) { m.Kind = 6 },
		"of the last kind":         func(m *api.Msg) { m.Kind = math.MaxUint8 },
	} {
		out[what] = withMsg(installOf(11, 6), to)
	}
	return out
}

// otherKinds is a message of each kind but Install that may be.
func otherKinds() map[string]api.Msg {
	return map[string]api.Msg{
		"Ask":   {Kind: api.Ask, From: 1, To: 2, Term: 7, Index: 10, LogTerm: 6},
		"Told":  {Kind: api.Told, From: 1, To: 2, Term: 6, Ok: true},
		"Lay":   {Kind: api.Lay, From: 1, To: 2, Term: 7, Index: 10, LogTerm: 6, Commit: 9, Round: 2, Entries: []api.Entry{{Term: 6}}},
		"Heard": {Kind: api.Heard, From: 1, To: 2, Term: 6, Ok: true, Index: 8, Round: 3},
	}
}

// P13.2: ErrArg of every other kind, of a message to another member, of one that may not be, and of such a member.
func TestTakeWrong(t *testing.T) {
	for name, p := range roles() {
		for what, m := range otherKinds() {
			if e := vote.MayMsg(m); e != api.OK {
				t.Fatalf("%s: %v", what, e)
			}
			got, sent, e := trim.Take(p, m)
			refused(t, name+", "+what, got, sent, e, api.ErrArg)
		}
		for what, m := range wrongMsgs() {
			got, sent, e := trim.Take(p, m)
			refused(t, name+", "+what, got, sent, e, api.ErrArg)
		}
	}
	for _, p := range spoiled() {
		for _, m := range []api.Msg{installOf(11, 6), installOf(1, 1), installOf(top, 2), {}} {
			if m.To = p.Id; p.Id == 0 {
				m.To = 2
			}
			for _, term := range []uint64{2, 6, 7} {
				m.Term = max(term, m.LogTerm)
				got, sent, e := trim.Take(p, m)
				refused(t, fmt.Sprintf("Take of %+v", p), got, sent, e, api.ErrArg)
			}
		}
	}
}

// P0.1: numbers at the end of what a member and a message may have end no Take otherwise than the words say.
func TestTakeHighest(t *testing.T) {
	for name, p := range roles() {
		for _, base := range []uint64{4, top - 3, top} {
			p := with(p, func(p *api.Peer) {
				p.Base, p.Commit, p.Term, p.Round, p.Idle, p.Reads = base, base+3, top, top, topTicks, nil
				for i := range p.Follows {
					p.Follows[i].Next, p.Follows[i].Match = base+2, base+1
				}
			})
			if e := vote.May(p); e != api.OK {
				t.Fatalf("%s: %v", name, e)
			}
			for _, index := range []uint64{1, top - 3, top - 1, top} {
				for _, term := range []uint64{1, 5, top - 1, top} {
					m := withMsg(installOf(index, term), func(m *api.Msg) { m.Term, m.Round, m.Members = top, top, []int{64} })
					want := copied(p)
					wantSent := wordsInstall(&want, m)
					got, sent, e := trim.Take(p, m)
					stepped(t, fmt.Sprint(name, " behind ", base, ", up to ", index), p, got, sent, e, want, wantSent)
				}
			}
		}
	}
}

// P13.2: nothing more is asked of a snapshot's members than that they may be a group.
func TestTakeAnyMembers(t *testing.T) {
	all := make([]int, api.MaxNodes)
	for i := range all {
		all[i] = i + 1
	}
	for _, members := range [][]int{{2}, {64}, {1}, {1, 64}, all} {
		m := withMsg(installOf(11, 6), func(m *api.Msg) { m.Members = members })
		got, sent, e := trim.Take(candidate(), m)
		want := led(candidate(), given(m, slices.Clone(members)))
		stepped(t, fmt.Sprint("members ", members), candidate(), got, sent, e, want, answers(6, true, 11, 7))
	}
}
