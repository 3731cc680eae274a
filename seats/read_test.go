package seats_test

import (
	"fmt"
	"math"
	"reflect"
	"slices"
	"testing"

	"tessera/api"
	"tessera/logs"
	"tessera/seats"
	"tessera/trim"
	"tessera/vote"
)

// readsAs holds a Read to what is wanted, and to what follows.
func readsAs(t *testing.T, name string, p, want api.Peer, round uint64, sent []api.Msg) api.Peer {
	t.Helper()
	got, at, l, e := seats.Read(p)
	if e != api.OK || at != round || !equal(got, want) || !equalMsgs(l, sent) {
		t.Errorf("%s: %+v, %d, %+v, %v\n wanted %+v, %d, %+v", name, got, at, l, e, want, round, sent)
	}
	follows(t, name, p, got, l)
	return got
}

// readRefused holds a Read to an error, with nothing beside it.
func readRefused(t *testing.T, name string, p api.Peer, want api.Errno) {
	t.Helper()
	got, round, l, e := seats.Read(p)
	if e != want || round != 0 || len(l) != 0 || !equal(got, api.Peer{}) {
		t.Errorf("%s: %+v, %d, %+v, %v, wanted %v", name, got, round, l, e, want)
	}
}

// readInWords holds a Read of a member that may be to the words: the error.
func readInWords(t *testing.T, name string, p api.Peer) api.Errno {
	t.Helper()
	want := copied(p)
	round, sent, e := wordsRead(&want)
	if e != api.OK {
		readRefused(t, name, p, e)
		return e
	}
	readsAs(t, name, p, want, round, sent)
	return e
}

// readyAs holds a Ready to what is wanted, and to what follows.
func readyAs(t *testing.T, name string, p, want api.Peer, reads []api.Read) api.Peer {
	t.Helper()
	got, l, e := seats.Ready(p)
	if e != api.OK || !equal(got, want) || !equalReads(l, reads) {
		t.Errorf("%s: %+v, %+v, %v\n wanted %+v, %+v", name, got, l, e, want, reads)
	}
	follows(t, name, p, got, nil)
	return got
}

// P14.3: the chapter's examples of readings.
func TestReadExamples(t *testing.T) {
	p := sureOne(t)
	p, round, sent, e := seats.Read(p)
	if e != api.OK || round != 1 || len(sent) != 2 || sent[0].Round != 1 || sent[1].Round != 1 {
		t.Fatalf("Read: %+v, %d, %+v, %v", p, round, sent, e)
	}
	p = heard(t, p, 2, 1, 1)
	want := with(p, func(p *api.Peer) { p.Reads = nil })
	readyAs(t, "Ready", p, want, []api.Read{{Round: 1, Index: 1, Acks: []int{1, 2}}})
	readRefused(t, "of an earlier term", unsure(), api.ErrRetry)
}

// P14.3: a reading stands behind the others, with what is committed, and what is sent has its round: a Lay to who has
// what is ahead of it, else an Install, rising.
func TestRead(t *testing.T) {
	p := leader()
	want := with(p, func(p *api.Peer) {
		p.Round = 4
		p.Reads = append(p.Reads, api.Read{Round: 4, Index: 9, Acks: []int{2}})
	})
	sent := []api.Msg{
		{Kind: api.Lay, From: 2, To: 1, Term: 6, Index: 10, LogTerm: 6, Commit: 9, Round: 4},
		{Kind: api.Install, From: 2, To: 3, Term: 6, Index: 4, LogTerm: 2, Members: []int{1, 2, 3}, Snap: "snap", Round: 4},
		{Kind: api.Lay, From: 2, To: 5, Term: 6, Index: 6, LogTerm: 3, Commit: 9, Round: 4, Entries: p.Log[2:]},
	}
	got := readsAs(t, "a leader", p, want, 4, sent)
	want = with(want, func(p *api.Peer) {
		p.Round = 5
		p.Reads = append(p.Reads, api.Read{Round: 5, Index: 9, Acks: []int{2}})
	})
	for i := range sent {
		sent[i].Round = 5
	}
	readsAs(t, "a leader, again", got, want, 5, sent)
}

// P14.3: the first reading there is, and one of a group of one, which is sent to nobody and ready at once.
func TestReadAlone(t *testing.T) {
	p := one()
	want := with(p, func(p *api.Peer) { p.Round, p.Reads = 1, []api.Read{{Round: 1, Index: 2, Acks: []int{2}}} })
	got := readsAs(t, "one alone", p, want, 1, nil)
	readyAs(t, "one alone", got, with(p, func(p *api.Peer) { p.Round = 1 }), want.Reads)
	for i := range 5 {
		var e api.Errno
		if p, _, _, e = seats.Read(p); e != api.OK || p.Round != uint64(i+1) || len(p.Reads) != i+1 {
			t.Fatalf("Read: %+v, %v", p, e)
		}
	}
	if p, l, e := seats.Ready(p); e != api.OK || len(l) != 5 || len(p.Reads) != 0 || p.Round != 5 {
		t.Errorf("Ready: %+v, %+v, %v", p, l, e)
	}
}

// P14.3: Idle, what is committed and what is known of the others stay as they were by a Read; one that is none of its
// members reads, too, and with a change under way.
func TestReadOthers(t *testing.T) {
	for name, p := range map[string]api.Peer{
		"out": out(), "one that changes": changing(leader(), 1, 2, 3), "one that goes": changing(leader(), 1, 3, 5),
		"one that has more than it has committed": with(one(), func(p *api.Peer) { p.Log = append(p.Log, api.Entry{Term: 3}) }),
		"one whose tick is due":                   with(leader(), func(p *api.Peer) { p.Idle = api.Beat }),
		"one with a higher round":                 with(leader(), func(p *api.Peer) { p.Round = 99 }),
		"one with room for many":                  leading([]int{1, 2, 3, 64}, 4, 3, 2),
		"one that all follow": with(leader(), func(p *api.Peer) {
			for i := range p.Follows {
				p.Follows[i].Next, p.Follows[i].Match = 11, 10
			}
		}),
	} {
		if e := readInWords(t, name, p); e != api.OK {
			t.Errorf("%s: %v", name, e)
		}
	}
}

// P14.3: at most MaxLay entries go to each of the others.
func TestReadMany(t *testing.T) {
	p := leading([]int{1, 2, 3})
	for range 40 {
		p.Log = append(p.Log, api.Entry{Term: 2, Data: "more"})
	}
	for next := uint64(1); next <= 45; next++ {
		p.Follows[0].Next, p.Follows[1].Next = next, 46-next
		readInWords(t, fmt.Sprint("Next ", next), p)
		_, _, sent, _ := seats.Read(p)
		if n := len(sent[0].Entries); n != min(int(45-next), api.MaxLay) {
			t.Errorf("Next %d: %d entries", next, n)
		}
	}
}

// P14.3: ErrArg, ErrLead and ErrRetry, in that order; ErrRetry of who is not sure of its log, and at the highest round.
func TestReadWrong(t *testing.T) {
	for _, p := range spoiled() {
		readRefused(t, fmt.Sprintf("%+v", p), p, api.ErrArg)
	}
	for name, p := range others() {
		readRefused(t, name, p, api.ErrLead)
	}
	for commit := uint64(4); commit <= 10; commit++ {
		p := with(leader(), func(p *api.Peer) { p.Commit, p.Reads = commit, nil })
		want := api.ErrRetry
		if commit >= 9 {
			want = api.OK
		}
		if e := readInWords(t, fmt.Sprint("Commit ", commit), p); e != want {
			t.Errorf("Commit %d: %v", commit, e)
		}
	}
	readRefused(t, "nothing committed", with(one(), func(p *api.Peer) { p.Commit = 0 }), api.ErrRetry)
	readRefused(t, "an elder one committed", with(one(), func(p *api.Peer) { p.Commit = 1 }), api.ErrRetry)
	for base, want := range map[uint64]api.Errno{8: api.ErrRetry, 9: api.OK, 10: api.OK} {
		p := with(leader(), func(p *api.Peer) { p.Commit, p.Reads = base, nil })
		p, e := trim.Compact(p, base, "s")
		if e != api.OK {
			t.Fatal(e)
		}
		if e := readInWords(t, "a snapshot up to Commit", p); e != want {
			t.Errorf("a snapshot up to Commit %d: %v", base, e)
		}
	}
	for round, want := range map[uint64]api.Errno{top - 2: api.OK, top - 1: api.OK, top: api.ErrRetry} {
		for name, p := range map[string]api.Peer{"a leader": leader(), "one alone": one(), "out": out()} {
			p.Round = round
			if e := readInWords(t, fmt.Sprint(name, ", Round ", round), p); e != want {
				t.Errorf("%s, Round %d: %v", name, round, e)
			}
		}
	}
	readRefused(t, "above the highest round", with(leader(), func(p *api.Peer) { p.Round = top + 1 }), api.ErrArg)
	readRefused(t, "far above it", with(leader(), func(p *api.Peer) { p.Round = math.MaxUint64 }), api.ErrArg)
	last := with(leader(), func(p *api.Peer) { p.Round = top - 1 })
	got, round, sent, e := seats.Read(last)
	if e != api.OK || round != top || got.Reads[3].Round != top || vote.May(got) != api.OK || vote.MayMsg(sent[0]) != api.OK {
		t.Errorf("the last round: %+v, %d, %+v, %v", got, round, sent, e)
	}
	readRefused(t, "behind the last round", got, api.ErrRetry)
}

// P14.3: those readings are ready whose Acks are more than half of the members, in their order; the others stay.
func TestReady(t *testing.T) {
	members := []int{1, 2, 3, 5}
	for name, c := range map[string]struct {
		acks  [][]int
		ready []int
	}{
		"none":                        {nil, nil},
		"of nobody":                   {[][]int{{}}, nil},
		"itself":                      {[][]int{{2}}, nil},
		"just half":                   {[][]int{{1, 2}, {3, 5}}, nil},
		"just more than half":         {[][]int{{1, 2, 3}}, []int{0}},
		"more than half, not itself":  {[][]int{{1, 3, 5}}, []int{0}},
		"all":                         {[][]int{{1, 2, 3, 5}}, []int{0}},
		"half, and those of no group": {[][]int{{1, 2, 4, 6, 7, 64}}, nil},
		"more than half, and others":  {[][]int{{1, 2, 3, 4, 64}}, []int{0}},
		"those of no group":           {[][]int{{4, 6, 7}}, nil},
		"the first one":               {[][]int{{1, 2, 3}, {2, 3}, {2}}, []int{0}},
		"the last one":                {[][]int{{1}, {2, 3}, {2, 3, 5}}, []int{2}},
		"one in the midst":            {[][]int{{1, 2}, {1, 2, 5}, {2, 3}}, []int{1}},
		"the ends":                    {[][]int{{1, 2, 3}, {2, 3}, {1, 2, 3, 5}}, []int{0, 2}},
		"some of each":                {[][]int{{1}, {1, 2, 3}, {2, 3}, {2, 3, 5}, {}, {1, 3, 5}, {4}}, []int{1, 3, 5}},
		"each":                        {[][]int{{1, 2, 3}, {1, 2, 5}, {1, 2, 3, 5}}, []int{0, 1, 2}},
	} {
		p := leading(members, 3, 3, 3)
		p.Round = 50
		for i, acks := range c.acks {
			p.Reads = append(p.Reads, api.Read{Round: uint64(3*i + 1), Index: uint64(i % 4), Acks: acks})
		}
		var want, left []api.Read
		for i, r := range p.Reads {
			if has(c.ready, i) {
				want = append(want, r)
			} else {
				left = append(left, r)
			}
		}
		got := readyAs(t, name, p, with(p, func(p *api.Peer) { p.Reads = left }), want)
		readyAs(t, name+", again", got, got, nil)
	}
}

// P14.3: Ready of others is nothing, and they are as they were; of what may not be ErrArg.
func TestReadyOthers(t *testing.T) {
	for name, p := range others() {
		readyAs(t, name, p, p, nil)
	}
	for name, p := range map[string]api.Peer{"a leader that has none": one(), "out": out(), "unsure": unsure()} {
		p.Reads = nil
		readyAs(t, name, p, p, nil)
	}
	for _, p := range spoiled() {
		if got, l, e := seats.Ready(p); e != api.ErrArg || len(l) != 0 || !equal(got, api.Peer{}) {
			t.Errorf("%+v: %+v, %+v, %v", p, got, l, e)
		}
	}
}

// P14.3: readings are acknowledged by Heards of their round or a later one, Ok and of the leader's term, from those that
// it follows; each is told once.
func TestReadAcknowledged(t *testing.T) {
	p := leading([]int{1, 2, 3, 4, 5}, 4, 4, 4, 4)
	for range 3 {
		p, _, _, _ = seats.Read(p)
	}
	ready := func(rounds ...uint64) {
		t.Helper()
		q, l, e := seats.Ready(p)
		var got []uint64
		for _, r := range l {
			got = append(got, r.Round)
		}
		if e != api.OK || !slices.Equal(got, rounds) || len(q.Reads)+len(l) != len(p.Reads) {
			t.Errorf("ready are %v, wanted %v: %+v, %v", got, rounds, q, e)
		}
		p = q
	}
	ready()
	p = heard(t, p, 3, 4, 0) // of no round
	p = heard(t, p, 1, 4, 0)
	p = heard(t, p, 9, 4, 3) // of no member
	ready()
	for _, m := range []api.Msg{
		{Kind: api.Heard, From: 3, To: 2, Term: 1, Ok: true, Index: 4, Round: 3}, // of an earlier term
		{Kind: api.Heard, From: 1, To: 2, Term: 1, Ok: true, Index: 4, Round: 3},
		{Kind: api.Heard, From: 3, To: 2, Term: 2, Index: 4, Round: 3}, // not Ok
		{Kind: api.Heard, From: 1, To: 2, Term: 2, Index: 4, Round: 3},
	} {
		p, _, _ = trim.Step(p, m)
	}
	ready()
	p = heard(t, p, 3, 4, 2)
	p = heard(t, p, 3, 4, 2) // doubled
	ready()
	p = heard(t, p, 5, 4, 1)
	ready(1)
	ready()
	p = heard(t, p, 1, 4, 9)
	ready(2)
	p = heard(t, p, 4, 0, 3)
	ready(3)
}

// P14.3: it is the members of now that count, not those of the time when the reading began.
func TestReadyMembers(t *testing.T) {
	begin := func(members []int, acks ...int) api.Peer {
		p := leading(members)
		for i := range p.Follows {
			p.Follows[i] = api.Follow{Id: p.Follows[i].Id, Next: 5, Match: 4}
		}
		p, _, _, e := seats.Read(p)
		if e != api.OK {
			t.Fatal(e)
		}
		for _, id := range acks {
			p = heard(t, p, id, 4, 1)
		}
		return p
	}
	ready := func(name string, p api.Peer, want bool) {
		t.Helper()
		if _, l, e := seats.Ready(p); e != api.OK || (len(l) == 1) != want {
			t.Errorf("%s: %+v, %v", name, l, e)
		}
	}
	p := begin([]int{1, 2, 3}, 1)
	ready("two of three", p, true)
	p, _, _ = seats.Add(p, 4)
	ready("two of three, and one more", p, false)
	ready("the one more hears", heard(t, p, 4, 0, 1), true)
	p = begin([]int{1, 2, 3, 4}, 1)
	ready("two of four", p, false)
	q, _, _ := seats.Remove(p, 4)
	ready("two of four, and one less", q, true)
	q, _, _ = seats.Remove(p, 1)
	ready("two of four, and one of them less", q, false)
	q, _, _ = seats.Remove(p, 2)
	ready("two of four, and the leader less", q, false)
	ready("all but one, and the leader less", heard(t, q, 3, 4, 1), true)
	p = begin([]int{1, 2})
	ready("one of two", p, false)
	q, _, _ = seats.Remove(p, 1)
	ready("one of two, and the other one less", q, true)
	p = begin([]int{2})
	ready("one of one", p, true)
	p, _, _ = seats.Add(p, 9)
	ready("one of one, and one more", p, false)
}

// P14.3: what was sent by a Read is answered as any other message, and by the answers it is ready.
func TestReadAnswered(t *testing.T) {
	for _, base := range []bool{false, true} {
		p := sureOne(t)
		p, _, _ = logs.Propose(p, "x")
		p = heard(t, p, 2, 2, 0)
		if base {
			p, _ = trim.Compact(p, 2, "s")
		}
		p, _, sent, e := seats.Read(p)
		if e != api.OK || len(sent) != 2 || sent[1].To != 3 {
			t.Fatalf("Read: %+v, %v", sent, e)
		}
		n, _ := vote.New(3, 10, 1, 2, 3)
		n, answers, e := trim.Step(n, sent[1])
		if e != api.OK || len(answers) != 1 || answers[0].Round != 1 || !answers[0].Ok {
			t.Fatalf("%+v: %+v, %v", sent[1], answers, e)
		}
		if base != (n.Snap == "s") {
			t.Errorf("the new member: %+v", n)
		}
		p, _, e = trim.Step(p, answers[0])
		if e != api.OK {
			t.Fatal(e)
		}
		_, l, e := seats.Ready(p)
		if e != api.OK || !reflect.DeepEqual(l, []api.Read{{Round: 1, Index: 2, Acks: []int{1, 3}}}) {
			t.Errorf("Ready: %+v, %v", l, e)
		}
	}
}

// P14.3: readings end where the leader stands down: to a later term, or as it quits.
func TestReadGone(t *testing.T) {
	p := leading([]int{1, 2, 3}, 4, 4)
	p, _, _, _ = seats.Read(p)
	q, _, e := trim.Step(p, api.Msg{Kind: api.Heard, From: 1, To: 2, Term: 3, Index: 4, Round: 1})
	if e != api.OK || q.Role != api.Follower {
		t.Fatalf("a later term: %+v, %v", q, e)
	}
	readyAs(t, "a later term", q, q, nil)
	readRefused(t, "a later term", q, api.ErrLead)
	p, _, _, _ = seats.Read(out())
	p, stood, e := seats.Quit(p)
	if e != api.OK || !stood {
		t.Fatalf("Quit: %+v, %v", p, e)
	}
	readyAs(t, "Quit", p, p, nil)
}
