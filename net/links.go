package net

import (
	"cmp"
	"maps"
	"slices"

	"tessera/api"
)

// Send lays a message on a link, behind those that are under way there.
func (n *Net) Send(from, to int, bytes string) api.Errno {
	if e := n.fault(from, to); e != api.OK {
		return e
	}
	if len(bytes) > api.MaxPacket {
		return api.ErrLong
	}
	return n.lay(link{from, to}, bytes)
}

// Len is how many messages are under way on a link.
func (n *Net) Len(from, to int) int {
	if n.fault(from, to) != api.OK {
		return 0
	}
	return len(n.links[link{from, to}])
}

// Peek is the bytes of a link's i-th message, which stays under way.
func (n *Net) Peek(from, to, i int) (string, api.Errno) {
	if e := n.fault(from, to); e != api.OK {
		return "", e
	}
	list := n.links[link{from, to}]
	if i < 0 || i >= len(list) {
		return "", api.ErrNone
	}
	return list[i], api.OK
}

// Take is a link's i-th message, which is no more under way; what is parted hands nothing over.
func (n *Net) Take(from, to, i int) (api.Packet, api.Errno) {
	bytes, e := n.Peek(from, to, i)
	if e != api.OK {
		return api.Packet{}, e
	}
	if n.Parted(from, to) {
		return api.Packet{}, api.ErrState
	}
	n.cut(link{from, to}, i)
	return api.Packet{From: from, To: to, Bytes: bytes}, api.OK
}

// Double lays another message like a link's i-th one behind those of the link.
func (n *Net) Double(from, to, i int) api.Errno {
	bytes, e := n.Peek(from, to, i)
	if e != api.OK {
		return e
	}
	return n.lay(link{from, to}, bytes)
}

// Drop loses a link's i-th message, parted or not.
func (n *Net) Drop(from, to, i int) api.Errno {
	if _, e := n.Peek(from, to, i); e != api.OK {
		return e
	}
	n.cut(link{from, to}, i)
	return api.OK
}

// Waiting is all messages under way, by from, by to, by their places.
func (n *Net) Waiting() []api.Packet {
	if n.fault() != api.OK {
		return nil
	}
	out := make([]api.Packet, 0, n.flight)
	for _, on := range slices.SortedFunc(maps.Keys(n.links), compareLinks) {
		for _, bytes := range n.links[on] {
			out = append(out, api.Packet{From: on.from, To: on.to, Bytes: bytes})
		}
	}
	return out
}

func compareLinks(a, b link) int {
	return cmp.Or(cmp.Compare(a.from, b.from), cmp.Compare(a.to, b.to))
}

// lay puts a message at the end of its link, if one more may be under way.
func (n *Net) lay(on link, bytes string) api.Errno {
	if n.flight >= api.MaxFlight {
		return api.ErrFull
	}
	n.links[on] = append(n.links[on], bytes)
	n.flight++
	return api.OK
}

// cut takes the i-th message, which is there, out of its link.
func (n *Net) cut(on link, i int) {
	n.flight--
	list := n.links[on]
	list[i] = "" // a shorter list may stand in the same array, which would keep the bytes
	switch {
	case len(list) == 1:
		delete(n.links, on)
	case i == 0: // most go out so, and a long list need not be copied for it
		n.links[on] = list[1:]
	default:
		n.links[on] = append(list[:i:i], list[i+1:]...)
	}
}
