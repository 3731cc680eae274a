package cells_test

import (
	"iter"
	"math"
	"math/rand"
	"slices"
	"sort"
	"strings"
	"testing"

	"tessera/api"
	"tessera/cells"
)

// draws is the same row of numbers in every run, so that a failure comes back.
func draws() *rand.Rand { return rand.New(rand.NewSource(7)) }

func val(key string, time uint64, val string) api.Cell {
	return api.Cell{Key: key, Time: time, Val: val}
}

func del(key string, time uint64) api.Cell { return api.Cell{Key: key, Time: time, Del: true} }

// words is cells as the chapter has them: each key and time once, in no order.
type words []api.Cell

func (w words) with(l ...api.Cell) words {
	out := slices.Clone(w)
	for _, c := range l {
		out = slices.DeleteFunc(out, func(o api.Cell) bool { return o.Key == c.Key && o.Time == c.Time })
		out = append(out, c)
	}
	return out
}

// all is the cells in order: by key; of one key the greater time first.
func (w words) all() []api.Cell {
	out := slices.Clone(w)
	sort.Slice(out, func(i, j int) bool {
		return out[i].Key < out[j].Key || out[i].Key == out[j].Key && out[i].Time > out[j].Time
	})
	return out
}

// newest is the cell of a key of the greatest time that is at most t.
func (w words) newest(key string, t uint64) (found api.Cell) {
	for _, c := range w {
		if c.Key == key && c.Time <= t && c.Time > found.Time {
			found = c
		}
	}
	return found
}

func (w words) get(key string, t uint64) (api.Cell, bool) {
	c := w.newest(key, t)
	if c.Time == 0 || c.Del {
		return api.Cell{}, false
	}
	return c, true
}

func (w words) keys() []string {
	var out []string
	for _, c := range w {
		out = append(out, c.Key)
	}
	slices.Sort(out)
	return slices.Compact(out)
}

func (w words) scan(from, to string, t uint64) []api.Cell {
	var out []api.Cell
	for _, key := range w.keys() {
		if c, is := w.get(key, t); is && key >= from && (to == "" || key < to) {
			out = append(out, c)
		}
	}
	return out
}

func (w words) trim(below uint64) words {
	return slices.DeleteFunc(slices.Clone(w), func(c api.Cell) bool {
		return c.Time <= below && (c.Del || w.newest(c.Key, below) != c)
	})
}

// someTimes are those that a cell has, those beside them, and both ends.
func (w words) someTimes() []uint64 {
	out := []uint64{0, 1, math.MaxUint64}
	for _, c := range w {
		out = append(out, c.Time-1, c.Time, c.Time+1)
	}
	slices.Sort(out)
	return slices.Compact(out)
}

// someKeys are those that there are, those right behind them, and others.
func (w words) someKeys() []string {
	out := []string{"", "\x00", "a", "m", "\xff\xff\xff"}
	for _, key := range w.keys() {
		out = append(out, key, key+"\x00", key[:len(key)-1])
	}
	slices.Sort(out)
	return slices.Compact(out)
}

// same fails if what is told is not this, over and over, and left at each place.
func same(t *testing.T, what string, told iter.Seq[api.Cell], want []api.Cell) {
	t.Helper()
	for range 2 {
		if got := slices.Collect(told); !slices.Equal(got, want) {
			t.Fatalf("%s: %v, not %v", what, brief(got), brief(want))
		}
	}
	for n := range min(len(want), 5) {
		var got []api.Cell
		for c := range told {
			got = append(got, c)
			if len(got) > n {
				break
			}
		}
		if !slices.Equal(got, want[:n+1]) {
			t.Fatalf("%s, left behind %d: %v, not %v", what, n+1, brief(got), brief(want[:n+1]))
		}
	}
}

// brief is the cells with little of what is long.
func brief(l []api.Cell) []api.Cell {
	out := slices.Clone(l)
	for i := range out {
		out[i].Key, out[i].Val = out[i].Key[:min(len(out[i].Key), 9)], out[i].Val[:min(len(out[i].Val), 9)]
	}
	return out
}

// has fails if the cells are not those of the words in what All and Len tell.
func has(t *testing.T, c *cells.Cells, w words) {
	t.Helper()
	same(t, "All", c.All(), w.all())
	if c.Len() != len(w) {
		t.Fatalf("Len: %d, not %d", c.Len(), len(w))
	}
}

// agree is has, and what is seen of each key and from each one on, at each time.
func agree(t *testing.T, c *cells.Cells, w words) {
	t.Helper()
	has(t, c, w)
	keys := w.someKeys()
	for _, time := range w.someTimes() {
		for _, key := range keys {
			want, is := w.get(key, time)
			if got, there := c.Get(key, time); got != want || there != is {
				t.Fatalf("Get(%q, %d): %v, %v, not %v, %v", key, time, got, there, want, is)
			}
			same(t, "Scan from "+key, c.Scan(key, "", time), w.scan(key, "", time))
			same(t, "Scan to "+key, c.Scan("", key, time), w.scan("", key, time))
		}
	}
}

// made is cells with these in them, and what they are in words.
func made(t *testing.T, l ...api.Cell) (*cells.Cells, words) {
	t.Helper()
	c := cells.New()
	put(t, c, l...)
	return c, words(nil).with(l...)
}

func put(t *testing.T, c *cells.Cells, l ...api.Cell) {
	t.Helper()
	if n, e := c.Put(l...); n != len(l) || e != api.OK {
		t.Fatalf("Put(%v): %d, %v", brief(l), n, e)
	}
}

var someNames = []string{"a", "b", "c", "ab", "a\x00", "a\xff", "\x00", "\xff", "abc", "b\x00"}

func drawCell(r *rand.Rand) api.Cell {
	key := someNames[r.Intn(len(someNames))]
	time := uint64(1 + r.Intn(7))
	switch r.Intn(8) {
	case 0, 1:
		return del(key, time)
	case 2:
		return val(key, math.MaxUint64, "z")
	case 3:
		return val(key, time, "")
	}
	return val(key, time, strings.Repeat("v", r.Intn(4)))
}

func drawCells(r *rand.Rand, most int) []api.Cell {
	out := make([]api.Cell, r.Intn(most+1))
	for i := range out {
		out[i] = drawCell(r)
	}
	return out
}
