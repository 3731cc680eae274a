package peers_test

import (
	"reflect"
	"testing"

	"tessera/api"
	"tessera/peers"
)

func member() api.Peer {
	return api.Peer{
		Id: 2, Members: []int{1, 2}, Term: 6, Vote: 3, Role: api.Leader, Lead: 2,
		Base: 4, BaseTerm: 2, BaseMembers: []int{1, 2, 3}, Snap: "snap",
		Log:    []api.Entry{{Term: 2, Data: "a"}, {Term: 3, Kind: api.Seats, Members: []int{1, 2}}},
		Commit: 5, Idle: 2, Wait: 12, Votes: []int{2, 5},
		Follows: []api.Follow{{Id: 1, Next: 6, Match: 5}}, Round: 3,
		Reads: []api.Read{{Round: 1, Index: 4, Acks: []int{2}}},
	}
}

// P0.1: a copy is the same, and whatever is done to it is not done to what it was made of, nor the other way round.
func TestClone(t *testing.T) {
	p := member()
	q := peers.Clone(p)
	if !reflect.DeepEqual(q, member()) {
		t.Fatalf("Clone: %+v", q)
	}
	change := func(p api.Peer) {
		p.Members[0], p.BaseMembers[0], p.Votes[0], p.Follows[0].Id = 9, 9, 9, 9
		p.Log[0].Data, p.Log[1].Members[0], p.Reads[0].Round, p.Reads[0].Acks[0] = "changed", 9, 9, 9
	}
	change(q)
	if !reflect.DeepEqual(p, member()) {
		t.Errorf("what it was made of: %+v", p)
	}
	q = peers.Clone(p)
	change(p)
	if !reflect.DeepEqual(q, member()) {
		t.Errorf("the copy: %+v", q)
	}
}

// P0.1: of entries likewise, spare room included, and none of nothing.
func TestEntries(t *testing.T) {
	from := member().Log
	l := peers.Entries(from[:1])
	if len(l) != 1 || !reflect.DeepEqual(l[0], from[0]) {
		t.Fatalf("Entries: %+v", l)
	}
	_ = append(l, api.Entry{Term: 99})
	if !reflect.DeepEqual(from, member().Log) {
		t.Errorf("what stood behind them: %+v", from)
	}
	l = peers.Entries(from)
	l[0].Data, l[1].Members[0] = "changed", 9
	if !reflect.DeepEqual(from, member().Log) {
		t.Errorf("what they were made of: %+v", from)
	}
	if l := append(peers.Entries(nil), peers.Entries(from[:0])...); len(l) != 0 {
		t.Errorf("Entries of none: %+v", l)
	}
}
