package net_test

import (
	"math"
	"slices"
	"testing"

	"tessera/api"
	"tessera/net"
)

// P9.3: the side is what Part named last, in any order and however often; of none and of all nothing is parted.
func TestPart(t *testing.T) {
	n, w := made(t, 4, 1)
	for _, one := range []struct {
		side   []int
		parted [][2]int // all of them, the lesser number first
	}{
		{[]int{2}, [][2]int{{1, 2}, {2, 3}, {2, 4}}},
		{nil, nil},
		{[]int{4, 1}, [][2]int{{1, 2}, {1, 3}, {2, 4}, {3, 4}}},
		{[]int{2, 3}, [][2]int{{1, 2}, {1, 3}, {2, 4}, {3, 4}}},
		{[]int{3, 3, 3}, [][2]int{{1, 3}, {2, 3}, {3, 4}}},
		{[]int{3, 1, 3, 1}, [][2]int{{1, 2}, {1, 4}, {2, 3}, {3, 4}}},
		{[]int{1, 2, 3, 4}, nil},
		{[]int{1, 2, 4}, [][2]int{{1, 3}, {2, 3}, {3, 4}}},
		{[]int{}, nil},
	} {
		parts(t, n, w, one.side...)
		for a := 1; a <= 4; a++ {
			for b := a; b <= 4; b++ {
				want := slices.Contains(one.parted, [2]int{a, b})
				if n.Parted(a, b) != want || n.Parted(b, a) != want {
					t.Errorf("Part(%v): Parted(%d, %d) %v, %v", one.side, a, b, n.Parted(a, b), n.Parted(b, a))
				}
			}
		}
		agree(t, n, w)
	}
}

// P9.3: ErrArg, if one is no machine, wherever it stands; the side is the one that it was.
func TestPartNoMachine(t *testing.T) {
	for _, before := range [][]int{nil, {1}, {1, 2}, {1, 2, 3}} {
		n, w := made(t, 3, 1)
		parts(t, n, w, before...)
		for _, bad := range noMachines(3) {
			for _, side := range [][]int{{bad}, {bad, 3}, {3, bad}, {2, bad, 3}, {bad, bad}} {
				if e := n.Part(side...); e != api.ErrArg {
					t.Errorf("Part(%v): %v", side, e)
				}
				agree(t, n, w)
			}
		}
	}
}

// P9.3: a machine is never parted from itself, nor from what is no machine.
func TestPartedNoMachine(t *testing.T) {
	n, w := made(t, 3, 1)
	for _, side := range [][]int{nil, {1}, {1, 2, 3}, {3}} {
		parts(t, n, w, side...)
		for _, pair := range noPairs(3) {
			if n.Parted(pair[0], pair[1]) {
				t.Errorf("Part(%v): Parted(%d, %d)", side, pair[0], pair[1])
			}
		}
		for node := 1; node <= 3; node++ {
			if n.Parted(node, node) {
				t.Errorf("Part(%v): %d is parted from itself", side, node)
			}
		}
	}
}

// P9.3, P0.1: what Part is handed is not changed, spare room included, and not kept; it may be long.
func TestPartKeepsNothing(t *testing.T) {
	n, w := made(t, 3, 1)
	room := []int{3, 1, 3, 77, 78}
	parts(t, n, w, room[:3]...)
	if !slices.Equal(room, []int{3, 1, 3, 77, 78}) {
		t.Errorf("Part changed its list: %v", room)
	}
	room[0], room[1], room[2] = 2, 2, 2
	agree(t, n, w)
	parts(t, n, w, slices.Repeat([]int{2, 1}, 1<<18)...)
	agree(t, n, w)
}

// P9.4: each machine has its own ticks; of no machine there are none, by ErrArg.
func TestTicks(t *testing.T) {
	n, w := made(t, api.MaxNodes, 1)
	for node := 1; node <= api.MaxNodes; node++ {
		for k := 1; k <= node%5; k++ {
			if got, e := n.Tick(node); got != k || e != api.OK {
				t.Errorf("Tick(%d): %d, %v, not %d", node, got, e, k)
			}
			w.tick(node)
		}
	}
	for _, bad := range noMachines(api.MaxNodes) {
		if got, e := n.Tick(bad); got != 0 || e != api.ErrArg {
			t.Errorf("Tick(%d): %d, %v", bad, got, e)
		}
		if got := n.Ticks(bad); got != 0 {
			t.Errorf("Ticks(%d): %d", bad, got)
		}
	}
	agree(t, n, w)
}

// P9.4: the first draws of machines by seeds, each at several bounds: the word, modulo the bound.
func TestDraw(t *testing.T) {
	for _, one := range []struct {
		seed  uint64
		node  int
		words []uint64
	}{
		{0, 1, []uint64{7960286522194355700, 487617019471545679, 17909611376780542444}},
		{0, 2, []uint64{487617019471545679, 17909611376780542444, 1961750202426094747}},
		{0, 64, []uint64{3061154374864262414, 5074816255715111235, 4771384256668957810}},
		{7, 1, []uint64{309689372594955804, 16616101746815609346, 10753165928301472203}},
		{7, 2, []uint64{16616101746815609346, 10753165928301472203, 8346079845500723674}},
		{7, 64, []uint64{8548921452456689817, 6609238898917001067, 14696359123380530193}},
		{math.MaxUint64, 1, []uint64{16834447057089888969, 4048727598324417001, 7862637804313477842}},
		{math.MaxUint64, 2, []uint64{4048727598324417001, 7862637804313477842, 13015481187462834606}},
		{math.MaxUint64, 64, []uint64{6009776265180951606, 4163163805327515406, 1242318712839509013}},
	} {
		for _, below := range []int{1, 2, 3, 10, 1000, 1 << 31, 1<<62 + 1, math.MaxInt} {
			n, _ := made(t, api.MaxNodes, one.seed)
			for k, word := range one.words {
				want := int(word % uint64(below))
				if got, e := n.Draw(one.node, below); got != want || e != api.OK {
					t.Errorf("seed %d: draw %d of Draw(%d, %d): %d, %v, not %d", one.seed, k+1, one.node, below, got, e, want)
				}
				if drawn := drawnWord(one.seed, one.node, k+1); drawn != word {
					t.Errorf("the words' draw: %d, not %d", drawn, word)
				}
			}
		}
	}
}

// P9.4: ErrArg of no machine, or of a bound below 1, by which nothing is drawn.
func TestDrawWrong(t *testing.T) {
	n, w := made(t, 3, 7)
	for _, below := range []int{0, -1, -10, math.MinInt} {
		for _, node := range []int{1, 3, 0, 4} {
			if got, e := n.Draw(node, below); got != 0 || e != api.ErrArg {
				t.Errorf("Draw(%d, %d): %d, %v", node, below, got, e)
			}
		}
	}
	for _, bad := range noMachines(3) {
		for _, below := range []int{1, 10, math.MaxInt} {
			if got, e := n.Draw(bad, below); got != 0 || e != api.ErrArg {
				t.Errorf("Draw(%d, %d): %d, %v", bad, below, got, e)
			}
		}
	}
	agree(t, n, w)
	for node := 1; node <= 3; node++ {
		for range 100 {
			if got, e := n.Draw(node, 1); got != 0 || e != api.OK {
				t.Fatalf("Draw(%d, 1): %d, %v", node, got, e)
			}
			w.draw(node, 1)
		}
	}
	agree(t, n, w)
}

// P9.5: a machine's draws and ticks are the same whatever else is done to the net.
func TestOwnDraws(t *testing.T) {
	r := draws()
	for range 30 {
		alone, _ := made(t, 1, 99)
		n, _ := made(t, 5, 99)
		for k := 1; k <= 20; k++ {
			for range r.Intn(5) {
				other := r.Intn(4) + 2
				n.Draw(other, 10)
				n.Tick(other)
				n.Send(1, other, "x")
				n.Take(1, other, 0)
				n.Part(other)
			}
			want, _ := alone.Draw(1, 1<<40)
			if got, e := n.Draw(1, 1<<40); got != want || e != api.OK {
				t.Fatalf("draw %d: %d, %v, not %d", k, got, e, want)
			}
			if got, e := n.Tick(1); got != k || e != api.OK {
				t.Fatalf("tick %d: %d, %v", k, got, e)
			}
		}
	}
}

// P9.4: nets of one seed draw the same, those of unlike seeds do not.
func TestSeeds(t *testing.T) {
	row := func(n *net.Net) (out []int) {
		for range 8 {
			k, _ := n.Draw(2, math.MaxInt)
			out = append(out, k)
		}
		return out
	}
	a, _ := made(t, 2, 7)
	b, _ := made(t, 3, 7)
	c, _ := made(t, 2, 8)
	first := row(a)
	if !slices.Equal(first, row(b)) || slices.Equal(first, row(c)) {
		t.Errorf("draws by seeds: %v", first)
	}
}
