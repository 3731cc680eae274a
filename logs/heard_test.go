package logs_test

import (
	"fmt"
	"slices"
	"testing"

	"tessera/api"
	"tessera/logs"
)

// heardOf is a Heard of a member to 2 in the term 6, of the Round 0.
func heardOf(from int, ok bool, index uint64) api.Msg {
	return api.Msg{Kind: api.Heard, From: from, To: 2, Term: 6, Ok: ok, Index: index}
}

// follow is a change by which a follower is known so.
func follow(id int, next, match uint64) func(p *api.Peer) {
	return func(p *api.Peer) {
		for i, f := range p.Follows {
			if f.Id == id {
				p.Follows[i] = api.Follow{Id: id, Next: next, Match: match}
			}
		}
	}
}

// P11.4: a Heard is nothing to who does not lead, of another Term, or of no follower; of a later Term the member
// stands down.
func TestHeardNothing(t *testing.T) {
	for _, ok := range []bool{true, false} {
		for name, p := range map[string]api.Peer{"a follower": follower(), "a candidate": candidate(), "one that is new": with(fresh(), func(p *api.Peer) { p.Term = 6 })} {
			got, sent, e := logs.Take(p, heardOf(1, ok, 8))
			stepped(t, name, p, got, sent, e, p, nil)
		}
		for name, p := range roles() {
			m := heardOf(3, ok, 8)
			m.Term = 5
			got, sent, e := logs.Take(p, m)
			stepped(t, name+", an earlier Term", p, got, sent, e, p, nil)
			for _, term := range []uint64{7, top} {
				m.Term = term
				want := with(p, func(p *api.Peer) {
					p.Term, p.Vote, p.Lead, p.Role, p.Votes, p.Follows, p.Reads = term, 0, 0, api.Follower, nil, nil, nil
				})
				got, sent, e := logs.Take(p, m)
				stepped(t, name+", a later Term", p, got, sent, e, want, nil)
			}
		}
		for _, from := range []int{4, 6, 64} {
			m := heardOf(from, ok, 8)
			m.Round = 3
			got, sent, e := logs.Take(leader(), m)
			stepped(t, fmt.Sprint("from ", from), leader(), got, sent, e, leader(), nil)
		}
	}
}

// P11.4: Ok: Match never falls and is never above the last index, Next is one behind it; what is left is sent.
func TestHeardOk(t *testing.T) {
	for _, c := range []struct {
		next, match uint64 // of 5 as it was
		index       uint64
		want        uint64 // its Match then
	}{
		{6, 3, 0, 3}, {6, 3, 2, 3}, {6, 3, 3, 3}, {6, 3, 4, 4}, {6, 3, 5, 5}, {6, 3, 6, 6}, {6, 3, 7, 7},
		{6, 3, 8, 8}, {6, 3, 9, 8}, {6, 3, 100, 8}, {6, 3, top, 8},
		{9, 8, 0, 8}, {9, 8, 7, 8}, {9, 8, 8, 8}, {9, 8, 9, 8},
		{9, 0, 0, 0}, {1, 0, 0, 0}, {1, 0, 3, 3}, {1, 0, 4, 4}, {9, 5, 4, 5},
	} {
		p := with(leader(), follow(5, c.next, c.match))
		want := with(p, func(p *api.Peer) {
			follow(5, c.want+1, c.want)(p)
			if c.want == 8 { // 1, 2 and 5 have it then
				p.Commit = 8
			}
		})
		var sends []api.Msg
		switch {
		case c.want < 4:
			sends = []api.Msg{install(5)}
		case c.want < 8:
			sends = []api.Msg{layFrom(5, c.want, map[uint64]uint64{4: 2, 5: 2, 6: 3, 7: 5}[c.want], int(8-c.want))}
		}
		got, sent, e := logs.Take(p, heardOf(5, true, c.index))
		stepped(t, fmt.Sprintf("%+v", c), p, got, sent, e, want, sends)
	}
}

// P11.4: Ok: what is sent then has the Commit to which it advanced; of elder entries nothing is committed.
func TestHeardAdvances(t *testing.T) {
	p := leading([]int{1, 2, 3}, 0, 0)
	p.Reads = nil
	for index := range uint64(9) {
		got, sent, e := logs.Take(p, heardOf(3, true, index))
		want := with(p, func(p *api.Peer) {
			follow(3, index+1, index)(p)
			if index >= 5 {
				p.Commit = index
			}
		})
		var sends []api.Msg
		if index < 8 {
			sends = []api.Msg{{
				Kind: api.Lay, From: 2, To: 3, Term: 6, Index: index, Commit: want.Commit, Entries: p.Log[index:],
				LogTerm: append([]uint64{0}, 2, 3, 5, 5, 6, 6, 6)[index],
			}}
		}
		stepped(t, fmt.Sprint("Index ", index), p, got, sent, e, want, sends)
	}
}

// P11.4: Ok: more entries than one message has are sent message by message, till none is left.
func TestHeardMore(t *testing.T) {
	p := many(40)
	counts := []int{}
	for range 10 {
		m, e := logs.Send(p, 1)
		if e != api.OK {
			t.Fatal(e)
		}
		for {
			counts = append(counts, len(m.Entries))
			q, sent, e := logs.Take(p, heardOf1(m))
			if e != api.OK || q.Commit != m.Index+uint64(len(m.Entries)) {
				t.Fatalf("%+v, %v", q, e)
			}
			if p = q; len(sent) == 0 {
				break
			}
			m = sent[0]
		}
	}
	if !slices.Equal(counts, append([]int{16, 16, 8}, make([]int, 9)...)) {
		t.Errorf("how many entries were sent: %v", counts)
	}
}

// heardOf1 is how 1 answers a Lay of 2 that it takes whole.
func heardOf1(m api.Msg) api.Msg {
	return api.Msg{Kind: api.Heard, From: 1, To: 2, Term: m.Term, Ok: true, Index: m.Index + uint64(len(m.Entries)), Round: m.Round}
}

// P11.4: not Ok: Next goes down, by one at least, to what the other one says, but stays above Match; it is sent at once.
func TestHeardNotOk(t *testing.T) {
	for _, c := range []struct{ next, match, index, want uint64 }{
		{9, 0, 8, 8}, {9, 0, 9, 8}, {9, 0, 100, 8}, {9, 0, top, 8}, {9, 0, 7, 8}, {9, 0, 6, 7}, {9, 0, 5, 6}, {9, 0, 4, 5}, {9, 0, 3, 4}, {9, 0, 0, 1},
		{6, 3, 8, 5}, {6, 3, 5, 5}, {6, 3, 4, 5}, {6, 3, 3, 4}, {6, 3, 2, 4}, {6, 3, 0, 4},
		{6, 5, 8, 6}, {6, 5, 4, 6}, {6, 5, 0, 6}, {9, 8, 0, 9}, {9, 8, 8, 9}, {9, 6, 0, 7}, {9, 6, 5, 7}, {9, 6, 6, 7}, {9, 6, 7, 8},
		{1, 0, 0, 1}, {1, 0, 8, 1}, {2, 0, 8, 1}, {2, 1, 8, 2},
	} {
		p := with(leader(), follow(5, c.next, c.match))
		want := with(p, follow(5, c.want, c.match))
		sends := install(5)
		if c.want > 4 {
			sends = layFrom(5, c.want-1, map[uint64]uint64{4: 2, 5: 2, 6: 3, 7: 5, 8: 6}[c.want-1], int(9-c.want))
		}
		m := heardOf(5, false, c.index)
		m.Round = 3 // it is no answer to a reading
		got, sent, e := logs.Take(p, m)
		stepped(t, fmt.Sprintf("%+v", c), p, got, sent, e, want, []api.Msg{sends})
	}
}

// P11.4: not Ok: it does not advance, though a majority has more than Commit.
func TestHeardNotOkStays(t *testing.T) {
	p := with(leader(), follow(5, 9, 8))
	got, sent, e := logs.Take(p, heardOf(3, false, 0))
	stepped(t, "not Ok", p, got, sent, e, p, []api.Msg{install(3)})
}

// P11.4: Ok: it is among the Acks of each Read up to its Round, once, in order; of no other one.
func TestHeardReads(t *testing.T) {
	for round, want := range map[uint64][3][]int{
		0:   {{2}, {2, 3}, nil},
		1:   {{1, 2}, {2, 3}, nil},
		2:   {{1, 2}, {1, 2, 3}, nil},
		3:   {{1, 2}, {1, 2, 3}, {1}},
		4:   {{1, 2}, {1, 2, 3}, {1}},
		top: {{1, 2}, {1, 2, 3}, {1}},
	} {
		m := heardOf(1, true, 8)
		m.Round = round
		once := with(leader(), func(p *api.Peer) {
			for i, acks := range want {
				p.Reads[i].Acks = acks
			}
		})
		got, sent, e := logs.Take(leader(), m)
		stepped(t, fmt.Sprint("Round ", round), leader(), got, sent, e, once, nil)
		got, sent, e = logs.Take(got, m)
		stepped(t, fmt.Sprint("Round ", round, ", again"), once, got, sent, e, once, nil)
	}
	for from, want := range map[int][3][]int{
		1: {{1, 2}, {1, 2, 3}, {1}}, 3: {{2, 3}, {2, 3}, {3}}, 5: {{2, 5}, {2, 3, 5}, {5}},
	} {
		m := heardOf(from, true, 4)
		m.Round = 3
		got, _, e := logs.Take(leader(), m)
		for i, acks := range want {
			if e != api.OK || !slices.Equal(got.Reads[i].Acks, acks) {
				t.Errorf("from %d: %+v, %v", from, got.Reads, e)
			}
		}
	}
}

// P11.4: a leader that is none of its Members counts what it hears, too.
func TestHeardOutside(t *testing.T) {
	p := leading([]int{1, 3, 4}, 8, 0, 0)
	got, sent, e := logs.Take(p, heardOf(4, true, 8))
	stepped(t, "the second one", p, got, sent, e, with(p, func(p *api.Peer) {
		follow(4, 9, 8)(p)
		p.Commit = 8
	}), nil)
}
