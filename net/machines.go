package net

import "tessera/api"

// What the draws are made of.
const (
	stride       uint64 = 11400714819323198485
	firstFactor  uint64 = 13787848793156543929
	secondFactor uint64 = 10723151780598845931
)

// machine is what one machine has of its own.
type machine struct {
	ticks int
	state uint64 // of its draws
	side  bool   // whether it is on the side
}

// Part lays machines on the side, in the place of those that were there; of none it heals.
func (n *Net) Part(side ...int) api.Errno {
	if e := n.fault(side...); e != api.OK {
		return e
	}
	for at := range n.machines {
		n.machines[at].side = false
	}
	for _, node := range side {
		n.at(node).side = true
	}
	return api.OK
}

// Parted is whether one of two machines is on the side and the other one not.
func (n *Net) Parted(a, b int) bool {
	if n.fault(a, b) != api.OK {
		return false
	}
	return n.at(a).side != n.at(b).side
}

// Tick gives a machine one tick more: how many it has.
func (n *Net) Tick(node int) (int, api.Errno) {
	if e := n.fault(node); e != api.OK {
		return 0, e
	}
	n.at(node).ticks++
	return n.Ticks(node), api.OK
}

// Ticks is how many ticks a machine has.
func (n *Net) Ticks(node int) int {
	if n.fault(node) != api.OK {
		return 0
	}
	return n.at(node).ticks
}

// Draw is a machine's next number, from 0 on, below a bound.
func (n *Net) Draw(node, below int) (int, api.Errno) {
	if e := n.fault(node); e != api.OK {
		return 0, e
	}
	if below < 1 {
		return 0, api.ErrArg
	}
	m := n.at(node)
	m.state += stride
	return int(mixed(m.state) % uint64(below)), api.OK
}

// at is a machine that is there.
func (n *Net) at(node int) *machine { return &n.machines[node-1] }

// firstState is the state of a machine's draws ahead of the first one.
func firstState(seed uint64, node int) uint64 { return seed + stride*uint64(node) }

// mixed is the word that is drawn of a state.
func mixed(x uint64) uint64 {
	x = (x ^ x>>30) * firstFactor
	x = (x ^ x>>27) * secondFactor
	return x ^ x>>31
}
