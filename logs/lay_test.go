package logs_test

import (
	"fmt"
	"math"
	"slices"
	"testing"

	"tessera/api"
	"tessera/logs"
	"tessera/vote"
)

// layOf is a Lay of 1 to 2 in the term 6, with the Round 7, of entries behind an index.
func layOf(index, term, commit uint64, entries ...api.Entry) api.Msg {
	return api.Msg{
		Kind: api.Lay, From: 1, To: 2, Term: 6, Index: index, LogTerm: term, Commit: commit, Round: 7, Entries: entries,
	}
}

// entriesOf is entries of those terms, with data of their own.
func entriesOf(terms ...uint64) []api.Entry {
	var l []api.Entry
	for i, term := range terms {
		l = append(l, api.Entry{Term: term, Data: fmt.Sprint("new ", i)})
	}
	return l
}

// answers is a Heard of 2 to 1.
func answers(term uint64, ok bool, index, round uint64) []api.Msg {
	return []api.Msg{{Kind: api.Heard, From: 2, To: 1, Term: term, Ok: ok, Index: index, Round: round}}
}

// led is a member that knows of 1 that it leads.
func led(p api.Peer, to func(p *api.Peer)) api.Peer {
	return with(p, func(p *api.Peer) {
		p.Lead, p.Idle = 1, 0
		to(p)
	})
}

func asIs(*api.Peer) {}

// laid is a change by which the log is as it was up to an index, with entries behind it, and Commit is given.
func laid(upTo, commit uint64, entries ...api.Entry) func(p *api.Peer) {
	return func(p *api.Peer) {
		p.Log, p.Commit = append(p.Log[:upTo-p.Base], entries...), commit
		p.Members = vote.Members(*p, p.Base+uint64(len(p.Log)))
	}
}

// P11.4: a Lay of a Term below its own changes nothing, whatever it has: a Heard of its Term.
func TestLayBelow(t *testing.T) {
	for name, p := range roles() {
		for _, term := range []uint64{5, 3} {
			m := layOf(4, 2, 9, entriesOf(3, 3)...)
			m.Term = term
			got, sent, e := logs.Take(p, m)
			stepped(t, fmt.Sprint(name, ", Term ", term), p, got, sent, e, p, answers(6, false, 8, 0))
		}
	}
	p := with(fresh(), func(p *api.Peer) { p.Term = 2 })
	got, sent, e := logs.Take(p, api.Msg{Kind: api.Lay, From: 1, To: 2, Term: 1, Round: 3})
	stepped(t, "an empty log", p, got, sent, e, p, answers(2, false, 0, 0))
}

// P11.4: a leader does nothing by a Lay of its own Term; it stands down to a later one, and takes it.
func TestLayLeader(t *testing.T) {
	for _, m := range []api.Msg{layOf(8, 6, 9), layOf(5, 2, 9, entriesOf(4, 6)...), layOf(0, 0, 0)} {
		got, sent, e := logs.Take(leader(), m)
		stepped(t, "its own Term", leader(), got, sent, e, leader(), nil)
	}
	for _, term := range []uint64{7, 99, top} {
		m := layOf(7, 5, 8, entriesOf(7, 7)...)
		m.Term = term
		for name, p := range roles() {
			want := led(follower(), func(p *api.Peer) {
				p.Term, p.Vote = term, 0
				laid(7, 8, m.Entries...)(p)
			})
			got, sent, e := logs.Take(p, m)
			stepped(t, fmt.Sprint(name, ", Term ", term), p, got, sent, e, want, answers(term, true, 9, 7))
		}
	}
}

// P11.4: by a Lay of its own Term a follower hears of who leads, whether or not it takes the entries; a candidate
// stands down.
func TestLayStandsDown(t *testing.T) {
	for name, p := range map[string]api.Peer{
		"a follower": follower(), "a candidate": candidate(),
		"a follower of nobody": with(follower(), func(p *api.Peer) { p.Lead = 0 }),
		"a follower of itself": with(follower(), func(p *api.Peer) { p.Lead, p.Vote = 2, 2 }),
		"one that was to wait": with(follower(), func(p *api.Peer) { p.Idle = 11 }),
	} {
		want := led(p, func(p *api.Peer) { p.Role, p.Votes = api.Follower, nil })
		got, sent, e := logs.Take(p, layOf(8, 6, 0))
		stepped(t, name+" takes it", p, got, sent, e, want, answers(6, true, 8, 7))
		got, sent, e = logs.Take(p, layOf(8, 5, 0))
		stepped(t, name+" does not have what is ahead", p, got, sent, e, want, answers(6, false, 7, 7))
		got, sent, e = logs.Take(p, layOf(4, 2, 0, entriesOf(3)...))
		stepped(t, name+" has committed another entry", p, got, sent, e, want, nil)
	}
	m := layOf(8, 6, 0) // from one that is no member: nothing says that it must be one
	m.From = 64
	got, sent, e := logs.Take(follower(), m)
	want := with(follower(), func(p *api.Peer) { p.Lead, p.Idle = 64, 0 })
	wantSent := answers(6, true, 8, 7)
	wantSent[0].To = 64
	stepped(t, "from no member", follower(), got, sent, e, want, wantSent)
}

// P11.4: a Lay behind an entry that it has not, or has of another term: not Ok, with where to begin.
func TestLayNotThere(t *testing.T) {
	more := entriesOf(6, 6)
	for _, c := range []struct{ index, term, want uint64 }{
		{4, 1, 3}, {4, 3, 3}, {4, 6, 3}, // at Base, of another term
		{5, 1, 4}, {5, 3, 4}, {6, 2, 5}, {6, 5, 5}, {7, 3, 6}, {7, 6, 6}, {8, 5, 7}, {8, 1, 7},
		{9, 6, 8}, {9, 5, 8}, {10, 6, 8}, {100, 6, 8}, {top, 6, 8}, // behind the last one
	} {
		for _, m := range []api.Msg{layOf(c.index, c.term, 0), layOf(c.index, c.term, 99, more...), layOf(c.index, c.term, math.MaxUint64)} {
			got, sent, e := logs.Take(follower(), m)
			stepped(t, fmt.Sprint("behind ", c.index, " of ", c.term), follower(), got, sent, e, led(follower(), asIs), answers(6, false, c.want, 7))
		}
	}
	for _, c := range []struct{ index, want uint64 }{{1, 0}, {2, 0}, {5, 0}, {top, 0}} {
		m := layOf(c.index, 1, 3, entriesOf(1)...)
		got, sent, e := logs.Take(fresh(), m)
		want := led(fresh(), func(p *api.Peer) { p.Term = 6 })
		stepped(t, fmt.Sprint("an empty log, behind ", c.index), fresh(), got, sent, e, want, answers(6, false, c.want, 7))
	}
	p := with(one(), func(p *api.Peer) { p.Role, p.Lead = api.Follower, 0 })
	m := layOf(1, 2, 9)
	got, sent, e := logs.Take(p, m)
	stepped(t, "the first entry is another one", p, got, sent, e, led(p, func(p *api.Peer) { p.Term, p.Vote = 6, 0 }), answers(6, false, 0, 7))
}

// P11.4: entries that are there by index and term stay as they are, and so do those behind them.
func TestLayThere(t *testing.T) {
	own := follower().Log
	for _, c := range []struct {
		m    api.Msg
		upTo uint64
	}{
		{layOf(4, 2, 0), 4}, {layOf(4, 2, 0, own[0]), 5}, {layOf(4, 2, 0, own[:3]...), 7}, {layOf(4, 2, 0, own...), 8},
		{layOf(5, 2, 0, own[1:]...), 8}, {layOf(6, 3, 0, own[2]), 7}, {layOf(7, 5, 0, own[3]), 8}, {layOf(8, 6, 0), 8}, {layOf(6, 3, 0), 6},
		{layOf(4, 2, 0, entriesOf(2, 3, 5)...), 7}, // by index and term alone, whatever they hold
	} {
		got, sent, e := logs.Take(follower(), c.m)
		stepped(t, fmt.Sprintf("%+v", c.m), follower(), got, sent, e, led(follower(), asIs), answers(6, true, c.upTo, 7))
	}
}

// P11.4: entries that part from its own above Commit take their place, and what was behind goes; what is new is laid
// behind the last one.
func TestLayNew(t *testing.T) {
	own := follower().Log
	for _, c := range []struct {
		name  string
		m     api.Msg
		stay  uint64 // up to where its own entries stay
		begin int    // which of m's entries is the first one that is laid
	}{
		{"one behind the last", layOf(8, 6, 0, entriesOf(6)...), 8, 0},
		{"several behind the last", layOf(8, 6, 0, entriesOf(6, 6, 6)...), 8, 0},
		{"some there, some behind", layOf(6, 3, 0, append(slices.Clone(own[2:]), entriesOf(6, 6)...)...), 8, 2},
		{"another last one", layOf(7, 5, 0, entriesOf(5)...), 7, 0},
		{"another one in the midst", layOf(6, 3, 0, entriesOf(4)...), 6, 0},
		{"another one in the midst, and more", layOf(6, 3, 0, entriesOf(4, 5, 6)...), 6, 0},
		{"behind what is committed", layOf(5, 2, 0, entriesOf(2, 6)...), 5, 0},
		{"behind Base, one there", layOf(4, 2, 0, append(slices.Clone(own[:1]), entriesOf(5, 6)...)...), 5, 1},
		{"the same terms further behind", layOf(5, 2, 0, entriesOf(4, 5, 6)...), 5, 0},
	} {
		got, sent, e := logs.Take(follower(), c.m)
		upTo := c.m.Index + uint64(len(c.m.Entries))
		want := led(follower(), laid(c.stay, 5, c.m.Entries[c.begin:]...))
		stepped(t, c.name, follower(), got, sent, e, want, answers(6, true, upTo, 7))
	}
	whole := entriesOf(1, 1, 2, 3, 3, 3, 4, 4, 4, 4, 5, 5, 5, 5, 5, 6) // MaxLay entries, to one that has none
	got, sent, e := logs.Take(fresh(), layOf(0, 0, 0, whole...))
	want := led(fresh(), func(p *api.Peer) { p.Term, p.Log = 6, whole })
	stepped(t, "MaxLay entries", fresh(), got, sent, e, want, answers(6, true, 16, 7))
}

// P11.4: an entry that parts from its own at or below Commit: nothing more is done, not even of Commit.
func TestLayCommitted(t *testing.T) {
	own := follower().Log
	for commit := uint64(4); commit <= 8; commit++ {
		p := with(follower(), func(p *api.Peer) { p.Commit = commit })
		for at := range own { // the entry 5 + at is another one
			m := layOf(4, 2, 99, append(slices.Clone(own[:at]), entriesOf([]uint64{4, 4, 4, 5}[at], 6)...)...)
			got, sent, e := logs.Take(p, m)
			name := fmt.Sprint("committed up to ", commit, ", another entry ", 5+at)
			if i := uint64(5 + at); i <= commit {
				stepped(t, name, p, got, sent, e, led(p, asIs), nil)
			} else {
				want := led(p, laid(i-1, i+1, m.Entries[at:]...))
				stepped(t, name, p, got, sent, e, want, answers(6, true, i+1, 7))
			}
		}
	}
}

// P11.4: Members are as of the last entry then: by a Seats entry that comes, and by one that goes.
func TestLayMembers(t *testing.T) {
	seats := func(ids ...int) api.Entry { return api.Entry{Term: 6, Kind: api.Seats, Members: ids} }
	noop := api.Entry{Term: 6, Kind: api.Noop}
	for _, c := range []struct {
		name    string
		m       api.Msg
		stay    uint64
		members []int
	}{
		{"one goes", layOf(5, 2, 0, noop), 5, []int{1, 2, 3}},
		{"one goes, one comes", layOf(5, 2, 0, seats(2, 3), noop), 5, []int{2, 3}},
		{"one comes", layOf(8, 6, 0, seats(1, 3, 64)), 8, []int{1, 3, 64}},
		{"two come", layOf(8, 6, 0, seats(1), noop, seats(1, 2), noop), 8, []int{1, 2}},
		{"none comes or goes", layOf(7, 5, 0, entriesOf(5)...), 7, []int{1, 2, 3, 5}},
	} {
		got, sent, e := logs.Take(follower(), c.m)
		want := led(follower(), func(p *api.Peer) {
			p.Log, p.Members = append(p.Log[:c.stay-4], c.m.Entries...), c.members
		})
		stepped(t, c.name, follower(), got, sent, e, want, answers(6, true, c.m.Index+uint64(len(c.m.Entries)), 7))
	}
}

// P11.4: Commit is the greater of it and the lesser of m's and of the last entry that m has, not of the log's.
func TestLayCommit(t *testing.T) {
	own := follower().Log
	for _, c := range []struct {
		m    api.Msg
		want uint64
	}{
		{layOf(8, 6, 0), 5}, {layOf(8, 6, 4), 5}, {layOf(8, 6, 5), 5}, {layOf(8, 6, 6), 6}, {layOf(8, 6, 8), 8}, {layOf(8, 6, 9), 8}, {layOf(8, 6, math.MaxUint64), 8},
		{layOf(4, 2, 9), 5}, {layOf(6, 3, 9), 6}, {layOf(6, 3, 9, own[2]), 7}, {layOf(6, 3, 7, own[2]), 7}, {layOf(6, 3, 6, own[2]), 6},
		{layOf(4, 2, 9, own[0]), 5}, {layOf(4, 2, 8, own[:2]...), 6},
	} {
		got, sent, e := logs.Take(follower(), c.m)
		want := led(follower(), func(p *api.Peer) { p.Commit = c.want })
		stepped(t, fmt.Sprintf("%+v", c.m), follower(), got, sent, e, want, answers(6, true, c.m.Index+uint64(len(c.m.Entries)), 7))
	}
	for commit, want := range map[uint64]uint64{0: 5, 5: 5, 6: 6, 7: 7, 8: 8, 9: 9, 10: 9, 11: 9} {
		m := layOf(7, 5, commit, entriesOf(5, 6)...)
		got, sent, e := logs.Take(follower(), m)
		stepped(t, fmt.Sprint("new ones, Commit ", commit), follower(), got, sent, e, led(follower(), laid(7, want, m.Entries...)), answers(6, true, 9, 7))
	}
}

// P11.4: of a Lay from below Base the entries up to Base are put away, and what it stands behind is not looked at.
func TestLayBelowBase(t *testing.T) {
	own := follower().Log
	for _, c := range []struct {
		name string
		m    api.Msg
		to   func(p *api.Peer)
		upTo uint64
	}{
		{"no entries, from 0", layOf(0, 0, 9), asIs, 4},
		{"no entries, from 3", layOf(3, 1, 9), asIs, 4},
		{"fewer", layOf(1, 1, 9, entriesOf(1, 2)...), asIs, 4},
		{"one fewer", layOf(0, 0, 9, entriesOf(1, 1, 2)...), asIs, 4},
		{"just as many", layOf(0, 0, 9, entriesOf(1, 1, 1, 2)...), asIs, 4},
		{"just as many, from 3", layOf(3, 1, 9, entriesOf(2)...), asIs, 4},
		{"one more, which is there", layOf(3, 1, 5, append(entriesOf(2), own[0])...), asIs, 5},
		{"all that are there", layOf(2, 1, 8, append(entriesOf(2, 2), own...)...), func(p *api.Peer) { p.Commit = 8 }, 8},
		{"there, and new ones", layOf(2, 1, 99, append(entriesOf(2, 2), append(slices.Clone(own), entriesOf(6)...)...)...), laid(8, 9, entriesOf(6)...), 9},
		{"another one above Commit", layOf(3, 2, 6, append(entriesOf(2), own[0], api.Entry{Term: 4, Data: "n"})...), laid(5, 6, api.Entry{Term: 4, Data: "n"}), 6},
	} {
		got, sent, e := logs.Take(follower(), c.m)
		stepped(t, c.name, follower(), got, sent, e, led(follower(), c.to), answers(6, true, c.upTo, 7))
	}
	m := layOf(3, 2, 9, entriesOf(2, 4)...)
	got, sent, e := logs.Take(follower(), m)
	stepped(t, "another one at Commit", follower(), got, sent, e, led(follower(), asIs), nil)
	bare := with(follower(), func(p *api.Peer) { p.Log, p.Members, p.Commit = nil, []int{1, 2, 3}, 4 })
	m = layOf(2, 1, 99, entriesOf(2, 2, 3, 6)...)
	got, sent, e = logs.Take(bare, m)
	stepped(t, "an empty log behind a Base", bare, got, sent, e, led(bare, laid(4, 6, m.Entries[2:]...)), answers(6, true, 6, 7))
}

// P11.5: what is answered may be, also where a Lay from below Base says of what is above it a term below BaseTerm: it
// parts from what is committed.
func TestLayFallen(t *testing.T) {
	bare := with(follower(), func(p *api.Peer) { p.Log, p.Members, p.Commit = nil, []int{1, 2, 3}, 4 })
	for _, from := range []api.Peer{bare, with(follower(), func(p *api.Peer) { p.Commit = 4 }), follower()} {
		for _, m := range []api.Msg{layOf(3, 1, 9, entriesOf(1, 1)...), layOf(3, 1, 9, entriesOf(1, 1, 6)...), layOf(0, 0, 9, entriesOf(1, 1, 1, 1, 1, 2)...)} {
			got, sent, e := logs.Take(from, m)
			if e != api.OK {
				t.Errorf("%+v: %v", m, e)
			}
			follows(t, fmt.Sprintf("%+v", m), from, got, sent)
		}
	}
}

// P11.4: ErrArg of every other kind, of a message to another member, of one that may not be, and of such a member.
func TestTakeWrong(t *testing.T) {
	heard := api.Msg{Kind: api.Heard, From: 1, To: 2, Term: 6, Ok: true, Index: 8, Round: 3}
	kinds := map[string]api.Msg{
		"Ask":     {Kind: api.Ask, From: 1, To: 2, Term: 7, Index: 8, LogTerm: 6},
		"Told":    {Kind: api.Told, From: 1, To: 2, Term: 6, Ok: true},
		"Install": {Kind: api.Install, From: 1, To: 2, Term: 7, Index: 9, LogTerm: 6, Members: []int{1, 2}, Snap: "s"},
		"none":    {From: 1, To: 2, Term: 6}, "no kind": {Kind: 6, From: 1, To: 2, Term: 6}, "zero": {},
	}
	for name, p := range roles() {
		for kind, m := range kinds {
			got, sent, e := logs.Take(p, m)
			refused(t, name+", "+kind, got, sent, e, api.ErrArg)
		}
		for _, m := range []api.Msg{layOf(8, 6, 9), heard} {
			for what, to := range map[string]func(m *api.Msg){
				"to another one":     func(m *api.Msg) { m.To = 3 },
				"to no member":       func(m *api.Msg) { m.To = 0 },
				"from itself":        func(m *api.Msg) { m.From = 2 },
				"from no member":     func(m *api.Msg) { m.From = 65 },
				"of Term 0":          func(m *api.Msg) { m.Term, m.LogTerm = 0, 0 },
				"of a Term too high": func(m *api.Msg) { m.Term = top + 1 },
				"an Index too high":  func(m *api.Msg) { m.Index = top + 1 },
				"a Round too high":   func(m *api.Msg) { m.Round = top + 1 },
				"with a Snap":        func(m *api.Msg) { m.Snap = "s" },
				"with Members":       func(m *api.Msg) { m.Members = []int{1} },
				"too many entries":   func(m *api.Msg) { m.Entries = entriesOf(make([]uint64, 17)...) },
				"an entry of Term 0": func(m *api.Msg) { m.Entries = entriesOf(0) },
				"an entry too late":  func(m *api.Msg) { m.Entries = entriesOf(7) },
			} {
				m := copiedMsg(m)
				to(&m)
				got, sent, e := logs.Take(p, m)
				refused(t, name+", "+what, got, sent, e, api.ErrArg)
			}
		}
	}
	for _, p := range spoiled() {
		for _, m := range []api.Msg{layOf(8, 6, 9), heard, layOf(0, 0, 0), {}} {
			if m.To = p.Id; p.Id == 0 {
				m.To = 2
			}
			got, sent, e := logs.Take(p, m)
			refused(t, fmt.Sprintf("Take of %+v", p), got, sent, e, api.ErrArg)
		}
	}
	long := layOf(0, 0, 0, entriesOf(slices.Repeat([]uint64{1}, 17)...)...)
	got, sent, e := logs.Take(fresh(), long)
	refused(t, "one entry more than MaxLay", got, sent, e, api.ErrArg)
}
