package net_test

import (
	"math"
	"slices"
	"testing"

	"tessera/api"
	"tessera/net"
)

// P9.1 to P9.4: the chapter's examples.
func TestExamples(t *testing.T) {
	n, w := made(t, 2, 7)
	sends(t, n, w, packet(1, 2, "a"), packet(1, 2, "b"))
	if p, e := n.Take(1, 2, 1); p != packet(1, 2, "b") || e != api.OK || n.Len(1, 2) != 1 {
		t.Errorf("Take(1, 2, 1): %v, %v; Len %d", p, e, n.Len(1, 2))
	}
	if e := n.Double(1, 2, 0); e != api.OK || !slices.Equal(n.Waiting(), []api.Packet{packet(1, 2, "a"), packet(1, 2, "a")}) {
		t.Errorf("Double(1, 2, 0): %v; Waiting %v", e, n.Waiting())
	}
	n.Part(1)
	_, e := n.Take(1, 2, 0)
	if f := n.Drop(1, 2, 0); e != api.ErrState || f != api.OK {
		t.Errorf("parted: Take %v, Drop %v", e, f)
	}
	n.Part()
	if p, e := n.Take(1, 2, 0); p != packet(1, 2, "a") || e != api.OK {
		t.Errorf("healed: %v, %v", p, e)
	}
	one, _ := n.Tick(1)
	two, _ := n.Tick(1)
	if one != 1 || two != 2 || n.Ticks(2) != 0 {
		t.Errorf("ticks: %d, %d; %d", one, two, n.Ticks(2))
	}
	again, _ := made(t, 2, 7)
	for range 2 {
		a, e := n.Draw(1, 10)
		if b, f := again.Draw(1, 10); a != b || e != api.OK || f != api.OK {
			t.Errorf("draws: %d, %v; %d, %v", a, e, b, f)
		}
	}
	if _, e := net.New(0, 1); e != api.ErrArg {
		t.Errorf("New(0, 1): %v", e)
	}
	if e := n.Send(1, 3, "x"); e != api.ErrArg {
		t.Errorf("Send(1, 3, x): %v", e)
	}
}

// P9.1: a net has 1 to MaxNodes machines, at first with nothing; any other number is ErrArg.
func TestNew(t *testing.T) {
	for _, nodes := range []int{1, 2, 3, api.MaxNodes - 1, api.MaxNodes} {
		for _, seed := range []uint64{0, 7, math.MaxUint64} {
			n, w := made(t, nodes, seed)
			agree(t, n, w)
		}
	}
	for _, nodes := range []int{0, -1, -api.MaxNodes, api.MaxNodes + 1, 1 << 32, 1<<32 + 1, math.MaxInt, math.MinInt} {
		if n, e := net.New(nodes, 7); n != nil || e != api.ErrArg {
			t.Errorf("New(%d): %v, %v", nodes, n, e)
		}
	}
}

// P9.4: a copy has the same messages, side, ticks and draws; neither changes when the other one does.
func TestCopy(t *testing.T) {
	changes := map[string]func(n *net.Net, w *words){
		"Send":                  func(n *net.Net, w *words) { n.Send(1, 2, "x"); w.send(1, 2, "x") },
		"Send on another link":  func(n *net.Net, w *words) { n.Send(3, 3, "x"); w.send(3, 3, "x") },
		"Take":                  func(n *net.Net, w *words) { n.Take(1, 3, 1); w.take(1, 3, 1) },
		"Take of the front one": func(n *net.Net, w *words) { n.Take(1, 3, 0); w.take(1, 3, 0) },
		"Take of the last one":  func(n *net.Net, w *words) { n.Take(1, 3, 2); w.take(1, 3, 2) },
		"Drop":                  func(n *net.Net, w *words) { n.Drop(2, 1, 0); w.drop(2, 1, 0) },
		"Double":                func(n *net.Net, w *words) { n.Double(1, 2, 1); w.double(1, 2, 1) },
		"Part":                  func(n *net.Net, w *words) { n.Part(1); w.part(1) },
		"healing":               func(n *net.Net, w *words) { n.Part(); w.part() },
		"Tick":                  func(n *net.Net, w *words) { n.Tick(1); w.tick(1) },
		"Draw":                  func(n *net.Net, w *words) { n.Draw(3, 10); w.draw(3, 10) },
	}
	for name, change := range changes {
		for second, other := range changes {
			n, w := made(t, 3, 7)
			sends(t, n, w, packet(1, 2, "a"), packet(1, 2, "b"), packet(2, 1, "c"), packet(1, 3, "d"), packet(1, 3, "e"), packet(1, 3, "f"))
			parts(t, n, w, 2)
			for _, node := range []int{1, 1, 3} {
				n.Tick(node)
				w.tick(node)
				n.Draw(node, 5)
				w.draw(node, 5)
			}
			m, v := n.Copy(), w.copy()
			agree(t, m, v)
			change(n, w)
			agree(t, n, w)
			agree(t, m, v)
			other(m, v)
			agree(t, n, w)
			agree(t, m, v)
			if t.Failed() {
				t.Fatalf("%s of the one, %s of the other", name, second)
			}
		}
	}
}

// P9.4: a copy of a net to which nothing was done is a net of its own.
func TestCopyOfNew(t *testing.T) {
	n, w := made(t, 2, 3)
	m, v := n.Copy(), w.copy()
	sends(t, n, w, packet(1, 2, "a"))
	sends(t, m, v, packet(2, 1, "b"), packet(1, 2, "c"))
	agree(t, n, w)
	agree(t, m, v)
}

// P0.1: a net that is not there, and one that New did not make, answer ErrNil, or nothing, whatever they are asked.
func TestNoNet(t *testing.T) {
	for name, n := range map[string]*net.Net{"nil": nil, "zero": {}} {
		for _, node := range []int{1, 0, -1, api.MaxNodes, math.MaxInt, math.MinInt} {
			for call, e := range map[string]api.Errno{
				"Send": n.Send(node, 1, "x"), "Send of too much": n.Send(1, node, string(make([]byte, api.MaxPacket+1))),
				"Double": n.Double(node, 1, 0), "Drop": n.Drop(1, node, -1), "Part": n.Part(node), "Part of none": n.Part(),
			} {
				if e != api.ErrNil {
					t.Errorf("%s: %s: %v", name, call, e)
				}
			}
			if bytes, e := n.Peek(node, 1, 0); bytes != "" || e != api.ErrNil {
				t.Errorf("%s: Peek: %q, %v", name, bytes, e)
			}
			if p, e := n.Take(1, node, 0); p != (api.Packet{}) || e != api.ErrNil {
				t.Errorf("%s: Take: %v, %v", name, p, e)
			}
			if k, e := n.Tick(node); k != 0 || e != api.ErrNil {
				t.Errorf("%s: Tick: %d, %v", name, k, e)
			}
			for _, below := range []int{10, 0} {
				if k, e := n.Draw(node, below); k != 0 || e != api.ErrNil {
					t.Errorf("%s: Draw: %d, %v", name, k, e)
				}
			}
			if n.Len(node, node) != 0 || n.Parted(1, node) || n.Ticks(node) != 0 {
				t.Errorf("%s: Len, Parted, Ticks", name)
			}
		}
		if len(n.Waiting()) != 0 || n.Nodes() != 0 || n.Copy() != nil {
			t.Errorf("%s: Waiting %v, Nodes %d, Copy %v", name, n.Waiting(), n.Nodes(), n.Copy())
		}
	}
}
