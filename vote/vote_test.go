package vote_test

import (
	"math"
	"reflect"
	"slices"
	"testing"

	"tessera/api"
	"tessera/vote"
)

// emptied is a member with a Base and an empty log.
func emptied() api.Peer {
	p := follower()
	p.Log, p.Members, p.Commit = nil, []int{1, 2, 3}, 4
	return p
}

// P10.2: the last entry's index and term: of a log, of an empty one with and without a Base.
func TestLast(t *testing.T) {
	short := follower()
	short.Log = short.Log[:1]
	high := follower()
	high.Base = top
	for name, c := range map[string]struct {
		p           api.Peer
		index, term uint64
	}{
		"a log":                {follower(), 7, 5},
		"a log of one":         {short, 5, 2},
		"a leader's":           {leader(), 7, 5},
		"empty, with a Base":   {emptied(), 4, 2},
		"empty":                {fresh(), 0, 0},
		"of one, with no Base": {api.Peer{Log: []api.Entry{{Term: 9}}}, 1, 9},
		"the greatest Base":    {high, top + 3, 5},
		"a zero member":        {api.Peer{}, 0, 0},
		"one that may not be":  {api.Peer{Base: 3, Log: []api.Entry{{Term: 4}, {}}}, 5, 0},
	} {
		if index, term := vote.Last(c.p); index != c.index || term != c.term {
			t.Errorf("%s: %d, %d", name, index, term)
		}
	}
}

// P10.2: the term of each entry, of Base, and of none below and behind.
func TestTerm(t *testing.T) {
	none := struct{}{}
	for name, c := range map[string]struct {
		p     api.Peer
		terms map[uint64]uint64
		not   map[uint64]struct{}
	}{
		"a log":              {follower(), map[uint64]uint64{4: 2, 5: 2, 6: 3, 7: 5}, map[uint64]struct{}{0: none, 1: none, 3: none, 8: none, 9: none, top: none}},
		"empty, with a Base": {emptied(), map[uint64]uint64{4: 2}, map[uint64]struct{}{0: none, 3: none, 5: none, math.MaxUint64: none}},
		"empty":              {fresh(), map[uint64]uint64{0: 0}, map[uint64]struct{}{1: none, 2: none, math.MaxUint64: none}},
		"without a Base":     {api.Peer{Log: []api.Entry{{Term: 1}, {Term: 3}}}, map[uint64]uint64{0: 0, 1: 1, 2: 3}, map[uint64]struct{}{3: none}},
		"one that may not be": {
			api.Peer{Base: math.MaxUint64, BaseTerm: 7, Log: []api.Entry{{Term: 9}}},
			map[uint64]uint64{math.MaxUint64: 7}, map[uint64]struct{}{0: none, 1: none, math.MaxUint64 - 1: none},
		},
	} {
		for i, want := range c.terms {
			if term, ok := vote.Term(c.p, i); term != want || !ok {
				t.Errorf("%s: Term(%d): %d, %v", name, i, term, ok)
			}
		}
		for i := range c.not {
			if term, ok := vote.Term(c.p, i); term != 0 || ok {
				t.Errorf("%s: Term(%d): %d, %v", name, i, term, ok)
			}
		}
	}
}

// P10.2: the members as of each index: those of the last Seats entry at or below it, else BaseMembers.
func TestMembers(t *testing.T) {
	two := follower()
	two.Log = append(two.Log, api.Entry{Term: 5, Kind: api.Seats, Members: []int{2, 9}}, api.Entry{Term: 6, Data: "z"})
	two.Members = []int{2, 9}
	for name, c := range map[string]struct {
		p    api.Peer
		want map[uint64][]int
	}{
		"a Seats entry": {follower(), map[uint64][]int{
			0: nil, 3: nil, 4: {1, 2, 3}, 5: {1, 2, 3}, 6: {1, 2, 3, 5}, 7: {1, 2, 3, 5}, 8: nil, 99: nil,
		}},
		"two Seats entries": {two, map[uint64][]int{
			3: nil, 4: {1, 2, 3}, 5: {1, 2, 3}, 6: {1, 2, 3, 5}, 7: {1, 2, 3, 5}, 8: {2, 9}, 9: {2, 9}, 10: nil,
		}},
		"empty, with a Base":  {emptied(), map[uint64][]int{0: nil, 3: nil, 4: {1, 2, 3}, 5: nil}},
		"empty":               {fresh(), map[uint64][]int{0: {1, 2}, 1: nil, math.MaxUint64: nil}},
		"one that may not be": {api.Peer{Members: []int{7}, BaseMembers: []int{9, 8}}, map[uint64][]int{0: {9, 8}, 1: nil}},
		"a zero one":          {api.Peer{}, map[uint64][]int{0: nil, 1: nil}},
	} {
		for i, want := range c.want {
			if got := vote.Members(c.p, i); !slices.Equal(got, want) {
				t.Errorf("%s: Members(%d): %v", name, i, got)
			}
		}
	}
}

// P10.2: Members of a member that may be, as of its last index, is its Members.
func TestMembersOfLast(t *testing.T) {
	r := draws()
	for range 2000 {
		p := drawnPeer(r)
		last, _ := vote.Last(p)
		if got := vote.Members(p, last); !slices.Equal(got, p.Members) {
			t.Fatalf("Members(%+v, %d): %v", p, last, got)
		}
		for i := range last + 3 {
			cut := p
			if i >= p.Base && i <= last {
				cut.Log = p.Log[:i-p.Base]
			}
			want, term, ok := lastMembers(cut), lastTerm(cut), true
			if i < p.Base || i > last {
				want, term, ok = nil, 0, false
			}
			if got := vote.Members(p, i); !slices.Equal(got, want) {
				t.Fatalf("Members(%+v, %d): %v", p, i, got)
			}
			if got, there := vote.Term(p, i); got != term || there != ok {
				t.Fatalf("Term(%+v, %d): %d, %v", p, i, got, there)
			}
		}
	}
}

// P10.2: more than half of the members, counted once each, whatever else is among the ids.
func TestMajority(t *testing.T) {
	for _, c := range []struct {
		members, ids []int
		want         bool
	}{
		{nil, nil, false}, {nil, []int{1}, false}, {[]int{}, []int{}, false},
		{[]int{1}, nil, false}, {[]int{1}, []int{1}, true}, {[]int{1}, []int{2}, false}, {[]int{1}, []int{2, 1}, true},
		{[]int{1, 2}, []int{1}, false}, {[]int{1, 2}, []int{2}, false}, {[]int{1, 2}, []int{1, 2}, true},
		{[]int{1, 2, 3}, []int{3}, false}, {[]int{1, 2, 3}, []int{3, 1}, true}, {[]int{1, 2, 3}, []int{3, 3}, false},
		{[]int{1, 2, 3}, []int{3, 3, 3, 4, 5}, false}, {[]int{1, 2, 3}, []int{2, 4, 5, 6}, false}, {[]int{1, 2, 3}, []int{4, 5, 6}, false},
		{[]int{1, 2, 3, 4}, []int{1, 2}, false}, {[]int{1, 2, 3, 4}, []int{1, 2, 4, 9}, true}, {[]int{1, 2, 3, 4}, []int{4, 1, 4, 1}, false},
		{[]int{1, 2, 3, 4}, []int{4, 3, 2, 1}, true}, {[]int{2, 4, 6, 8, 10}, []int{1, 2, 3, 4, 5}, false}, {[]int{2, 4, 6, 8, 10}, []int{10, 2, 6}, true},
		{[]int{-1, 0, math.MaxInt}, []int{math.MaxInt, -1}, true}, {[]int{3, 1, 2}, []int{1, 2}, true}, {[]int{3, 1, 2}, []int{1}, false},
	} {
		if got := vote.Majority(c.members, c.ids...); got != c.want {
			t.Errorf("Majority(%v, %v): %v", c.members, c.ids, got)
		}
	}
}

// P10.2: Majority of all groups up to seven, by all choices among eight.
func TestMajorityOfAll(t *testing.T) {
	pick := func(bits int) []int {
		var l []int
		for id := range 8 {
			if bits>>id&1 == 1 {
				l = append(l, id+1)
			}
		}
		return l
	}
	for size := range 8 {
		members := pick(1<<size - 1)
		for bits := range 256 {
			ids := pick(bits)
			slices.Reverse(ids)
			if got := vote.Majority(members, append(ids, ids...)...); got != wordsMajority(members, ids) {
				t.Fatalf("Majority(%v, %v): %v", members, ids, got)
			}
		}
	}
}

// P10.2: what is asked for by Majority is neither changed nor too much for long lists.
func TestMajorityLong(t *testing.T) {
	members, ids := make([]int, 200000), make([]int, 200000)
	for i := range members {
		members[i], ids[i] = len(members)-i, i+100001
	}
	if vote.Majority(members, ids[:99999]...) || vote.Majority(members, ids...) || !vote.Majority(members, append(ids, 7)...) {
		t.Errorf("Majority of long lists")
	}
	if members[0] != len(members) || ids[0] != 100001 || !slices.IsSorted(ids) {
		t.Errorf("Majority changed its lists")
	}
}

// P10.2: Same is told of what is unlike in any one field, of any one item of a list, of one item more or less.
func TestSame(t *testing.T) {
	for _, from := range []func() api.Peer{fresh, follower, candidate, leader, func() api.Peer { return api.Peer{} }} {
		if !vote.Same(from(), from()) {
			t.Errorf("Same of %+v and itself", from())
		}
		p := from()
		v := reflect.ValueOf(&p).Elem()
		for i := range v.NumField() {
			for _, unlike := range unlikes(v.Field(i)) {
				q := copied(p)
				reflect.ValueOf(&q).Elem().Field(i).Set(unlike)
				if vote.Same(p, q) || vote.Same(q, p) {
					t.Errorf("%s: Same of %+v and %+v", v.Type().Field(i).Name, p, q)
				}
			}
		}
	}
}

// unlikes is values near one, each of which is not the same: of a list one more, one less, and one with an unlike item.
func unlikes(v reflect.Value) []reflect.Value {
	var out []reflect.Value
	other := reflect.New(v.Type()).Elem()
	switch v.Kind() {
	case reflect.Int:
		other.SetInt(v.Int() + 1)
	case reflect.Uint8, reflect.Uint64:
		other.SetUint(v.Uint() + 1)
	case reflect.String:
		other.SetString(v.String() + "\x00")
	case reflect.Slice:
		whole := reflect.AppendSlice(other, v)
		other = reflect.Append(whole, reflect.Zero(v.Type().Elem()))
		for i := range v.Len() {
			less := reflect.AppendSlice(reflect.Zero(v.Type()), v.Slice(0, i))
			out = append(out, reflect.AppendSlice(less, v.Slice(i+1, v.Len())))
			for _, item := range unlikes(v.Index(i)) {
				l := reflect.AppendSlice(reflect.Zero(v.Type()), v)
				l.Index(i).Set(item)
				out = append(out, l)
			}
		}
	case reflect.Struct:
		for i := range v.NumField() {
			for _, field := range unlikes(v.Field(i)) {
				item := reflect.New(v.Type()).Elem()
				item.Set(v)
				item.Field(i).Set(field)
				out = append(out, item)
			}
		}
		return out
	}
	return append(out, other)
}

// P10.2: none and nothing of lists are the same, in each list.
func TestSameNothing(t *testing.T) {
	p := fresh()
	q := copied(p)
	q.Log, q.Votes, q.Follows, q.Reads = []api.Entry{}, []int{}, []api.Follow{}, []api.Read{}
	a, b := leader(), leader()
	a.Log[0].Members, b.Log[0].Members = nil, []int{}
	a.Reads[0].Acks, b.Reads[0].Acks = nil, []int{}
	zero := api.Peer{Members: []int{}, BaseMembers: []int{}}
	for _, c := range [][2]api.Peer{{p, q}, {a, b}, {zero, {}}} {
		if !vote.Same(c[0], c[1]) || !vote.Same(c[1], c[0]) {
			t.Errorf("Same of %+v and %+v", c[0], c[1])
		}
	}
}

// P10.2: Same is what the library tells, of members of which something was changed.
func TestSameDrawn(t *testing.T) {
	r := draws()
	yes := 0
	for range 20000 {
		p := drawnPeer(r)
		q := copied(p)
		spoil(r, &q)
		if equal(p, q) {
			yes++
		}
		if got := vote.Same(p, q); got != equal(p, q) {
			t.Fatalf("Same of %+v and %+v: %v", p, q, got)
		}
	}
	if yes < 1000 || yes > 19000 {
		t.Errorf("what is drawn tells little: %d of 20000 are the same", yes)
	}
}
