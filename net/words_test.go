package net_test

import (
	"math"
	"math/big"
	"math/rand"
	"slices"
	"sort"
	"testing"

	"tessera/api"
	"tessera/net"
)

// draws is the same row of numbers in every run, so that a failure comes back.
func draws() *rand.Rand { return rand.New(rand.NewSource(9)) }

func packet(from, to int, bytes string) api.Packet {
	return api.Packet{From: from, To: to, Bytes: bytes}
}

// words is a net as the chapter has it: all messages in one row, in the order in which they were laid.
type words struct {
	nodes        int
	seed         uint64
	row          []api.Packet
	side         []int
	ticks, drawn []int // of each machine, by its number; what of 0 is told counts for nothing
}

func (w *words) copy() *words {
	out := *w
	out.row, out.side = slices.Clone(w.row), slices.Clone(w.side)
	out.ticks, out.drawn = slices.Clone(w.ticks), slices.Clone(w.drawn)
	return &out
}

func (w *words) machine(l ...int) bool {
	return !slices.ContainsFunc(l, func(node int) bool { return node < 1 || node > w.nodes })
}

// places are where the row has the messages of a link.
func (w *words) places(from, to int) []int {
	var out []int
	for at, p := range w.row {
		if p.From == from && p.To == to {
			out = append(out, at)
		}
	}
	return out
}

// find is where the row has the i-th message of a link.
func (w *words) find(from, to, i int) (int, api.Errno) {
	if !w.machine(from, to) {
		return 0, api.ErrArg
	}
	at := w.places(from, to)
	if i < 0 || i >= len(at) {
		return 0, api.ErrNone
	}
	return at[i], api.OK
}

func (w *words) send(from, to int, bytes string) api.Errno {
	switch {
	case !w.machine(from, to):
		return api.ErrArg
	case len(bytes) > api.MaxPacket:
		return api.ErrLong
	case len(w.row) == api.MaxFlight:
		return api.ErrFull
	}
	w.row = append(w.row, packet(from, to, bytes))
	return api.OK
}

func (w *words) peek(from, to, i int) (string, api.Errno) {
	at, e := w.find(from, to, i)
	if e != api.OK {
		return "", e
	}
	return w.row[at].Bytes, api.OK
}

func (w *words) take(from, to, i int) (api.Packet, api.Errno) {
	at, e := w.find(from, to, i)
	if e != api.OK {
		return api.Packet{}, e
	}
	if w.parted(from, to) {
		return api.Packet{}, api.ErrState
	}
	p := w.row[at]
	return p, w.drop(from, to, i)
}

func (w *words) drop(from, to, i int) api.Errno {
	at, e := w.find(from, to, i)
	if e == api.OK {
		w.row = slices.Delete(slices.Clone(w.row), at, at+1)
	}
	return e
}

func (w *words) double(from, to, i int) api.Errno {
	at, e := w.find(from, to, i)
	if e != api.OK {
		return e
	}
	return w.send(from, to, w.row[at].Bytes)
}

func (w *words) part(side ...int) api.Errno {
	if !w.machine(side...) {
		return api.ErrArg
	}
	w.side = slices.Clone(side)
	return api.OK
}

func (w *words) parted(a, b int) bool {
	return w.machine(a, b) && slices.Contains(w.side, a) != slices.Contains(w.side, b)
}

func (w *words) waiting() []api.Packet {
	out := slices.Clone(w.row)
	sort.SliceStable(out, func(i, j int) bool {
		return out[i].From < out[j].From || out[i].From == out[j].From && out[i].To < out[j].To
	})
	return out
}

func (w *words) tick(node int) (int, api.Errno) {
	if !w.machine(node) {
		return 0, api.ErrArg
	}
	w.ticks[node]++
	return w.ticks[node], api.OK
}

func (w *words) draw(node, below int) (int, api.Errno) {
	if !w.machine(node) || below < 1 {
		return 0, api.ErrArg
	}
	w.drawn[node]++
	word := new(big.Int).SetUint64(drawnWord(w.seed, node, w.drawn[node]))
	return int(word.Mod(word, big.NewInt(int64(below))).Int64()), api.OK
}

// drawnWord is what a machine's k-th draw is ahead of the bound, by numbers that do not wrap of themselves.
func drawnWord(seed uint64, node, k int) uint64 {
	number := func(n uint64) *big.Int { return new(big.Int).SetUint64(n) }
	wrap := new(big.Int).Lsh(big.NewInt(1), 64)
	x := number(11400714819323198485)
	x.Mul(x, big.NewInt(int64(node+k))).Add(x, number(seed)).Mod(x, wrap)
	fold := func(shift uint) { x.Xor(x, new(big.Int).Rsh(x, shift)) }
	fold(30)
	x.Mul(x, number(13787848793156543929)).Mod(x, wrap)
	fold(27)
	x.Mul(x, number(10723151780598845931)).Mod(x, wrap)
	fold(31)
	return x.Uint64()
}

// made is a net, and its words.
func made(t *testing.T, nodes int, seed uint64) (*net.Net, *words) {
	t.Helper()
	n, e := net.New(nodes, seed)
	if n == nil || e != api.OK {
		t.Fatalf("New(%d, %d): %v, %v", nodes, seed, n, e)
	}
	return n, &words{nodes: nodes, seed: seed, ticks: make([]int, nodes+1), drawn: make([]int, nodes+1)}
}

// sends sends to a net and to its words.
func sends(t *testing.T, n *net.Net, w *words, l ...api.Packet) {
	t.Helper()
	for _, p := range l {
		if e := n.Send(p.From, p.To, p.Bytes); e != api.OK || w.send(p.From, p.To, p.Bytes) != api.OK {
			t.Fatalf("Send(%d, %d, %q): %v", p.From, p.To, p.Bytes, e)
		}
	}
}

// parts lays machines on the side of a net and of its words.
func parts(t *testing.T, n *net.Net, w *words, side ...int) {
	t.Helper()
	if e := n.Part(side...); e != api.OK || w.part(side...) != api.OK {
		t.Fatalf("Part(%v): %v", side, e)
	}
}

// noMachines are numbers that no machine of so many has.
func noMachines(nodes int) []int {
	return []int{0, -1, nodes + 1, -nodes, math.MaxInt, math.MinInt, 1 << 32, 1<<32 + 1}
}

// noPairs are pairs of numbers of which at least one is no machine.
func noPairs(nodes int) [][2]int {
	var out [][2]int
	for _, bad := range noMachines(nodes) {
		out = append(out, [2]int{bad, 1}, [2]int{1, bad}, [2]int{bad, bad}, [2]int{bad, nodes}, [2]int{nodes, bad})
	}
	return out
}

// agree fails if a call that only tells tells otherwise than the words.
func agree(t *testing.T, n *net.Net, w *words) {
	t.Helper()
	if got := n.Nodes(); got != w.nodes {
		t.Fatalf("Nodes: %d, not %d", got, w.nodes)
	}
	if got, want := n.Waiting(), w.waiting(); !slices.Equal(got, want) {
		t.Fatalf("Waiting: %v, not %v", got, want)
	}
	for a := range w.nodes + 2 {
		if got := n.Ticks(a); w.machine(a) && got != w.ticks[a] || !w.machine(a) && got != 0 {
			t.Fatalf("Ticks(%d): %d", a, got)
		}
		for b := range w.nodes + 2 {
			agreeOn(t, n, w, a, b)
		}
	}
	agreeDraws(t, n, w)
}

// agreeOn holds what is told of two machines against the words.
func agreeOn(t *testing.T, n *net.Net, w *words, a, b int) {
	t.Helper()
	if got, want := n.Parted(a, b), w.parted(a, b); got != want {
		t.Fatalf("Parted(%d, %d): %v, not %v", a, b, got, want)
	}
	count := len(w.places(a, b))
	if got := n.Len(a, b); got != count {
		t.Fatalf("Len(%d, %d): %d, not %d", a, b, got, count)
	}
	for i := -1; i <= count; i++ {
		got, e := n.Peek(a, b, i)
		if want, f := w.peek(a, b, i); got != want || e != f {
			t.Fatalf("Peek(%d, %d, %d): %q, %v, not %q, %v", a, b, i, got, e, want, f)
		}
	}
}

// agreeDraws holds the next draws against the words, by a copy, as a draw changes its net.
func agreeDraws(t *testing.T, n *net.Net, w *words) {
	t.Helper()
	other, v := n.Copy(), w.copy()
	for node := 1; node <= w.nodes; node++ {
		got, e := other.Draw(node, math.MaxInt)
		if want, f := v.draw(node, math.MaxInt); got != want || e != f {
			t.Fatalf("the next Draw(%d): %d, %v, not %d, %v", node, got, e, want, f)
		}
	}
}

// someNode is mostly a machine.
func someNode(r *rand.Rand, nodes int) int {
	if r.Intn(20) == 0 {
		return noMachines(nodes)[r.Intn(len(noMachines(nodes)))]
	}
	return r.Intn(nodes) + 1
}

// step does one drawn call to a net and to its words, and fails if they answer otherwise.
func step(t *testing.T, r *rand.Rand, n *net.Net, w *words) {
	t.Helper()
	a, b := someNode(r, w.nodes), someNode(r, w.nodes)
	i := r.Intn(len(w.places(a, b))+2) - r.Intn(2)
	var got, want [3]any
	verb := r.Intn(8)
	switch verb {
	case 0, 1:
		bytes := string(rune('a' + r.Intn(26)))
		got[0], want[0] = n.Send(a, b, bytes), w.send(a, b, bytes)
	case 2:
		got[0], got[1] = n.Take(a, b, i)
		want[0], want[1] = w.take(a, b, i)
	case 3:
		got[0], want[0] = n.Drop(a, b, i), w.drop(a, b, i)
	case 4:
		got[0], want[0] = n.Double(a, b, i), w.double(a, b, i)
	case 5:
		var side []int
		for range r.Intn(w.nodes + 1) {
			side = append(side, someNode(r, w.nodes))
		}
		got[0], want[0] = n.Part(side...), w.part(side...)
	case 6:
		got[0], got[1] = n.Tick(a)
		want[0], want[1] = w.tick(a)
	case 7:
		below := []int{-1, 0, 1, 2, 10, 1 << 40, math.MaxInt}[r.Intn(7)]
		got[0], got[1] = n.Draw(a, below)
		want[0], want[1] = w.draw(a, below)
	}
	if got != want {
		t.Fatalf("call %d of %d, %d, %d: %v, not %v", verb, a, b, i, got, want)
	}
}

// P9.1 to P9.4: whatever is called, the net is as the chapter's words have it; a copy on the way goes on by itself.
func TestDrawnCalls(t *testing.T) {
	r := draws()
	for round := range 300 {
		n, w := made(t, r.Intn(5)+1, r.Uint64())
		for range 60 {
			step(t, r, n, w)
			if round%5 == 0 {
				agree(t, n, w)
			}
			if r.Intn(30) == 0 {
				other, v := n.Copy(), w.copy()
				for range 10 {
					step(t, r, other, v)
				}
				agree(t, other, v)
			}
		}
		agree(t, n, w)
	}
}
