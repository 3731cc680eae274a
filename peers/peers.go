// Package peers copies members of a group and their entries, compares entries, and has them as bytes, for the layers that hand them on.
package peers

import (
	"slices"

	"tessera/api"
)

// Clone is p with lists of its own: none of them is another one's.
func Clone(p api.Peer) api.Peer {
	p.Members, p.BaseMembers = slices.Clone(p.Members), slices.Clone(p.BaseMembers)
	p.Votes, p.Follows = slices.Clone(p.Votes), slices.Clone(p.Follows)
	p.Log, p.Reads = Entries(p.Log), slices.Clone(p.Reads)
	for at := range p.Reads {
		p.Reads[at].Acks = slices.Clone(p.Reads[at].Acks)
	}
	return p
}

// Entries is the entries in a list of its own, each with members of its own.
func Entries(l []api.Entry) []api.Entry {
	l = slices.Clone(l)
	for at := range l {
		l[at].Members = slices.Clone(l[at].Members)
	}
	return l
}

// SameEntry says whether two entries are the same in all.
func SameEntry(a, b api.Entry) bool {
	return a.Term == b.Term && a.Kind == b.Kind && a.Data == b.Data && slices.Equal(a.Members, b.Members)
}
