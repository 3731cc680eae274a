package cells_test

import (
	"iter"
	"math"
	"slices"
	"strconv"
	"strings"
	"testing"

	"tessera/api"
	"tessera/cells"
)

// P7.1 to P7.3: the chapter's examples.
func TestExamples(t *testing.T) {
	c := cells.New()
	put(t, c, val("k", 5, "a"), val("k", 3, "b"), del("k", 7))
	for _, one := range []struct {
		t    uint64
		want api.Cell
		is   bool
	}{{4, val("k", 3, "b"), true}, {5, val("k", 5, "a"), true}, {7, api.Cell{}, false}, {2, api.Cell{}, false}} {
		if got, is := c.Get("k", one.t); got != one.want || is != one.is {
			t.Errorf("Get(k, %d): %v, %v", one.t, got, is)
		}
	}
	same(t, "All", c.All(), []api.Cell{del("k", 7), val("k", 5, "a"), val("k", 3, "b")})
	if n := c.Trim(5); n != 1 {
		t.Errorf("Trim(5): %d", n)
	}
	same(t, "All behind Trim(5)", c.All(), []api.Cell{del("k", 7), val("k", 5, "a")})
	if n := c.Trim(7); n != 2 || c.Len() != 0 {
		t.Errorf("Trim(7): %d, %d left", n, c.Len())
	}
	for _, wrong := range []api.Cell{val("", 1, ""), val("k", 0, "x"), {Key: "k", Time: 1, Del: true, Val: "x"}} {
		if at, e := c.Put(wrong); at != 0 || e != api.ErrArg {
			t.Errorf("Put(%v): %d, %v", wrong, at, e)
		}
	}
	put(t, c, val("a", 1, ""), val("b", 2, ""), val("c", 3, ""), val("d", 4, ""))
	same(t, "Scan(a, c, 9)", c.Scan("a", "c", 9), []api.Cell{val("a", 1, ""), val("b", 2, "")})
}

// P7.1: new cells are none.
func TestNew(t *testing.T) {
	c, w := made(t)
	agree(t, c, w)
	put(t, c)
	agree(t, c, w)
	put(t, c, val("a", 1, "x"))
	agree(t, cells.New(), nil)
}

// P7.1: none, one, many, in any order, by one call or several.
func TestPut(t *testing.T) {
	list := []api.Cell{val("a", 1, "x"), val("a", 9, ""), del("a", 4), val("b", 1, "y"), val("ab", math.MaxUint64, "z"), del("\x00", 1)}
	for turn := range list {
		row := slices.Concat(list[turn:], list[:turn])
		c, w := made(t, row...)
		agree(t, c, w)
		slices.Reverse(row)
		d := cells.New()
		for i, one := range row {
			put(t, d, one)
			agree(t, d, words(nil).with(row[:i+1]...))
		}
		agree(t, d, w)
	}
}

// P7.1: the edges of what may be: keys of 1 and of MaxKey bytes, the times 1 and the
// greatest one, values of none and of MaxCell bytes.
func TestEdges(t *testing.T) {
	key, value := strings.Repeat("k", api.MaxKey), strings.Repeat("v", api.MaxCell)
	list := []api.Cell{
		val("k", 1, value), val(key, 1, value), val("\x00", 1, ""), val("\xff", math.MaxUint64, ""),
		val(key, math.MaxUint64, ""), val("k", math.MaxUint64, "v"), del(key, 7), del("k", 1), del("\n", math.MaxUint64),
	}
	for _, one := range list {
		c, w := made(t, one)
		agree(t, c, w)
	}
	c, w := made(t, list...)
	agree(t, c, w)
}

// wrongs are cells that may not be, with what Put says of each.
func wrongs() map[string]struct {
	cell api.Cell
	e    api.Errno
} {
	key, value := strings.Repeat("k", api.MaxKey+1), strings.Repeat("v", api.MaxCell+1)
	return map[string]struct {
		cell api.Cell
		e    api.Errno
	}{
		"no key":                         {val("", 1, "x"), api.ErrArg},
		"no key of a Del":                {del("", 1), api.ErrArg},
		"the time 0":                     {val("k", 0, "x"), api.ErrArg},
		"the time 0 of a Del":            {del("k", 0), api.ErrArg},
		"nothing at all":                 {api.Cell{}, api.ErrArg},
		"a Del with a value":             {api.Cell{Key: "k", Time: 1, Del: true, Val: "x"}, api.ErrArg},
		"a Del with MaxCell bytes":       {api.Cell{Key: "k", Time: 1, Del: true, Val: value[1:]}, api.ErrArg},
		"a long key":                     {val(key, 1, "x"), api.ErrLong},
		"a long key of a Del":            {del(key, 1), api.ErrLong},
		"a far longer key":               {val(strings.Repeat(key, 9), 1, "x"), api.ErrLong},
		"a long value":                   {val("k", 1, value), api.ErrLong},
		"both long":                      {val(key, 1, value), api.ErrLong},
		"a long key at the time 0":       {val(key, 0, "x"), api.ErrLong},
		"a long key, a Del with a value": {api.Cell{Key: key, Time: 1, Del: true, Val: "x"}, api.ErrLong},
		"a long value, no key":           {val("", 1, value), api.ErrLong},
		"a long value at the time 0":     {val("k", 0, value), api.ErrLong},
		"a Del with a long value":        {api.Cell{Key: "k", Time: 1, Del: true, Val: value}, api.ErrLong},
	}
}

// P7.1: the first cell that may not be is told, by its place, and none is put.
func TestWrong(t *testing.T) {
	c, w := made(t, val("k", 1, "old"), del("k", 2))
	check := func(why string, at int, e api.Errno, l ...api.Cell) {
		t.Helper()
		if n, got := c.Put(l...); n != at || got != e {
			t.Errorf("%s at %d: %d, %v, not %v", why, at, n, got, e)
		}
		has(t, c, w)
	}
	right := []api.Cell{val("k", 1, "new"), val("l", 1, "x")}
	for why, one := range wrongs() {
		check(why, 0, one.e, one.cell)
		check(why, 0, one.e, append([]api.Cell{one.cell}, right...)...)
		check(why, 1, one.e, right[0], one.cell, right[1])
		check(why, 2, one.e, append(slices.Clone(right), one.cell)...)
		for other, two := range wrongs() {
			check(why+" ahead of "+other, 1, one.e, right[0], one.cell, two.cell)
		}
	}
	agree(t, c, w)
}

// P7.1: one with the same key and time takes the other one's place, in the order of the
// list, and is counted as put each time.
func TestPlace(t *testing.T) {
	c, w := made(t, val("a", 1, "x"), val("b", 1, "y"), val("b", 2, "z"))
	for _, l := range [][]api.Cell{
		{val("b", 1, "new")},
		{del("b", 1)},
		{val("b", 1, "")},
		{val("b", 1, "first"), val("b", 1, "second")},
		{val("c", 1, "first"), del("c", 1)},
		{del("c", 1), val("d", 1, ""), val("c", 1, "second"), val("c", 1, "third")},
	} {
		put(t, c, l...)
		w = w.with(l...)
		agree(t, c, w)
	}
	if c.Len() != 5 {
		t.Errorf("Len: %d", c.Len())
	}
}

// P7.2: below a key's first time, at each of its times, between them and above; at a Del;
// keys that are not there, one of which is another one's beginning.
func TestGet(t *testing.T) {
	c, _ := made(t, val("key", 10, "ten"), del("key", 20), val("key", 30, ""), val("key", math.MaxUint64, "last"), del("gone", 5), val("kez", 1, "other"))
	for _, one := range []struct {
		key  string
		t    uint64
		want api.Cell
	}{
		{"key", 0, api.Cell{}}, {"key", 1, api.Cell{}}, {"key", 9, api.Cell{}},
		{"key", 10, val("key", 10, "ten")}, {"key", 11, val("key", 10, "ten")}, {"key", 19, val("key", 10, "ten")},
		{"key", 20, api.Cell{}}, {"key", 25, api.Cell{}}, {"key", 29, api.Cell{}},
		{"key", 30, val("key", 30, "")}, {"key", 31, val("key", 30, "")}, {"key", math.MaxUint64 - 1, val("key", 30, "")},
		{"key", math.MaxUint64, val("key", math.MaxUint64, "last")},
		{"gone", 4, api.Cell{}}, {"gone", 5, api.Cell{}}, {"gone", 6, api.Cell{}}, {"gone", math.MaxUint64, api.Cell{}},
		{"", 0, api.Cell{}}, {"", 30, api.Cell{}}, {"ke", 30, api.Cell{}}, {"key\x00", 30, api.Cell{}}, {"a", 30, api.Cell{}}, {"z", 30, api.Cell{}},
		{strings.Repeat("k", api.MaxKey+1), 30, api.Cell{}},
		{"kez", 30, val("kez", 1, "other")},
	} {
		if got, is := c.Get(one.key, one.t); got != one.want || is != (one.want.Time > 0) {
			t.Errorf("Get(%.9q, %d): %v, %v", one.key, one.t, got, is)
		}
	}
}

// P7.2: which keys a Scan goes over, by both of its ends, and at which times.
func TestScan(t *testing.T) {
	c, w := made(t, val("a", 2, "a2"), val("a", 5, "a5"), val("b", 3, "b3"), del("b", 6), val("ba", 3, "ba3"), del("c", 2), val("c", 4, "c4"), val("d", 9, "d9"), del("e", 1))
	for _, one := range []struct {
		from, to string
		t        uint64
		want     string
	}{
		{"", "", 0, ""}, {"a", "z", 0, ""}, {"", "", 1, ""},
		{"", "", 2, "a2"}, {"", "", 3, "a2 b3 ba3"}, {"", "", 4, "a2 b3 ba3 c4"}, {"", "", 5, "a5 b3 ba3 c4"}, {"", "", 6, "a5 ba3 c4"}, {"", "", 9, "a5 ba3 c4 d9"}, {"", "", math.MaxUint64, "a5 ba3 c4 d9"},
		{"", "a", 5, ""}, {"", "a\x00", 5, "a5"}, {"", "b", 5, "a5"}, {"", "ba", 5, "a5 b3"}, {"", "zzz", 5, "a5 b3 ba3 c4"},
		{"a", "", 5, "a5 b3 ba3 c4"}, {"a\x00", "", 5, "b3 ba3 c4"}, {"b", "", 5, "b3 ba3 c4"}, {"b", "", 6, "ba3 c4"}, {"b\x00", "", 5, "ba3 c4"}, {"e", "", 9, ""}, {"z", "", 9, ""},
		{"a", "c", 5, "a5 b3 ba3"}, {"b", "c", 5, "b3 ba3"}, {"b", "ba", 5, "b3"}, {"b", "b\x00", 5, "b3"},
		{"a", "a", 5, ""}, {"b", "b", 5, ""}, {"z", "z", 5, ""}, {"bb", "bb", 5, ""},
		{"c", "a", 5, ""}, {"b\x00", "b", 5, ""}, {"z", "a", 5, ""},
		{strings.Repeat("b", 2*api.MaxKey), "", 5, "c4"}, {"", strings.Repeat("b", 2*api.MaxKey), 5, "a5 b3 ba3"},
	} {
		var got []string
		for x := range c.Scan(one.from, one.to, one.t) {
			got = append(got, x.Val)
		}
		if strings.Join(got, " ") != one.want {
			t.Errorf("Scan(%.9q, %.9q, %d): %v, not %s", one.from, one.to, one.t, got, one.want)
		}
		same(t, "Scan", c.Scan(one.from, one.to, one.t), w.scan(one.from, one.to, one.t))
	}
}

// P7.2, P7.5: between all ends, at all times, a Scan tells what Get answers, key by key.
func TestScanIsGet(t *testing.T) {
	r := draws()
	for range 20 {
		c, w := made(t, drawCells(r, 40)...)
		keys := append(w.someKeys(), someNames...)
		for range 200 {
			from, to, time := keys[r.Intn(len(keys))], keys[r.Intn(len(keys))], w.someTimes()[r.Intn(len(w.someTimes()))]
			var want []api.Cell
			for _, key := range w.keys() {
				if one, is := c.Get(key, time); is && from <= key && (key < to || to == "") {
					want = append(want, one)
				}
			}
			same(t, "Scan", c.Scan(from, to, time), want)
			same(t, "Scan", c.Scan(from, to, time), w.scan(from, to, time))
		}
	}
}

// P0.1: what is put or trimmed on the way is not told; when it is gone over again it is.
func TestOnTheWay(t *testing.T) {
	for what, over := range map[string]func(c *cells.Cells) iter.Seq[api.Cell]{
		"All":  (*cells.Cells).All,
		"Scan": func(c *cells.Cells) iter.Seq[api.Cell] { return c.Scan("", "", math.MaxUint64) },
	} {
		c := cells.New()
		told := over(c)
		same(t, what+" of none", told, nil)
		put(t, c, val("b", 1, "x"), val("d", 1, "y"), val("f", 1, "z"))
		var got []api.Cell
		for one := range told {
			got = append(got, one)
			put(t, c, val("a", 1, "new"), val("e", 1, "new"), val("f", 1, "new"), del("b", 2), val("d", 2, "new"))
			c.Trim(9)
		}
		if want := []api.Cell{val("b", 1, "x"), val("d", 1, "y"), val("f", 1, "z")}; !slices.Equal(got, want) {
			t.Errorf("%s: %v, not %v", what, got, want)
		}
		if got := slices.Collect(told); slices.Equal(got, []api.Cell{val("b", 1, "x"), val("d", 1, "y"), val("f", 1, "z")}) || len(got) < 4 {
			t.Errorf("%s, again: %v", what, got)
		}
		same(t, what+", again", told, slices.Collect(over(c)))
	}
}

// P7.2: a copy does not change when the other one does, nor the other one when the copy does.
func TestCopy(t *testing.T) {
	change := []struct {
		do func(*cells.Cells)
		in func(words) words
	}{
		{func(c *cells.Cells) { put(t, c, val("new", 3, "x"), del("a", 4)) }, func(w words) words { return w.with(val("new", 3, "x"), del("a", 4)) }},
		{func(c *cells.Cells) { put(t, c, val("a", 1, "other")) }, func(w words) words { return w.with(val("a", 1, "other")) }},
		{func(c *cells.Cells) { c.Trim(5) }, func(w words) words { return w.trim(5) }},
		{func(c *cells.Cells) { c.Trim(math.MaxUint64) }, func(w words) words { return w.trim(math.MaxUint64) }},
	}
	for _, one := range change {
		for _, other := range change {
			a, w := made(t, val("a", 1, "x"), val("a", 2, "y"), del("b", 1), val("c", 5, "z"), val("c", 9, ""))
			b := a.Copy()
			if b == nil || b == a {
				t.Fatalf("Copy is no other one")
			}
			agree(t, b, w)
			told := b.All()
			one.do(a)
			agree(t, a, one.in(w))
			agree(t, b, w)
			other.do(b)
			agree(t, a, one.in(w))
			agree(t, b, other.in(w))
			same(t, "the copy's All", told, other.in(w).all())
		}
	}
	agree(t, cells.New().Copy(), nil)
}

// P7.3: of each key the newest cell up to the time stays, unless it is Del, and all above.
func TestTrim(t *testing.T) {
	for _, one := range []struct {
		below uint64
		went  int
		left  []api.Cell
	}{
		{0, 0, []api.Cell{val("a", 8, "a8"), val("a", 5, "a5"), val("a", 2, "a2"), val("b", 9, "b9"), del("b", 6), val("b", 3, "b3"), del("c", 4), val("d", 3, "d3"), del("d", 1)}},
		{1, 1, []api.Cell{val("a", 8, "a8"), val("a", 5, "a5"), val("a", 2, "a2"), val("b", 9, "b9"), del("b", 6), val("b", 3, "b3"), del("c", 4), val("d", 3, "d3")}},
		{2, 1, []api.Cell{val("a", 8, "a8"), val("a", 5, "a5"), val("a", 2, "a2"), val("b", 9, "b9"), del("b", 6), val("b", 3, "b3"), del("c", 4), val("d", 3, "d3")}},
		{3, 1, []api.Cell{val("a", 8, "a8"), val("a", 5, "a5"), val("a", 2, "a2"), val("b", 9, "b9"), del("b", 6), val("b", 3, "b3"), del("c", 4), val("d", 3, "d3")}},
		{4, 2, []api.Cell{val("a", 8, "a8"), val("a", 5, "a5"), val("a", 2, "a2"), val("b", 9, "b9"), del("b", 6), val("b", 3, "b3"), val("d", 3, "d3")}},
		{5, 3, []api.Cell{val("a", 8, "a8"), val("a", 5, "a5"), val("b", 9, "b9"), del("b", 6), val("b", 3, "b3"), val("d", 3, "d3")}},
		{6, 5, []api.Cell{val("a", 8, "a8"), val("a", 5, "a5"), val("b", 9, "b9"), val("d", 3, "d3")}},
		{7, 5, []api.Cell{val("a", 8, "a8"), val("a", 5, "a5"), val("b", 9, "b9"), val("d", 3, "d3")}},
		{8, 6, []api.Cell{val("a", 8, "a8"), val("b", 9, "b9"), val("d", 3, "d3")}},
		{9, 6, []api.Cell{val("a", 8, "a8"), val("b", 9, "b9"), val("d", 3, "d3")}},
		{10, 6, []api.Cell{val("a", 8, "a8"), val("b", 9, "b9"), val("d", 3, "d3")}},
		{math.MaxUint64, 6, []api.Cell{val("a", 8, "a8"), val("b", 9, "b9"), val("d", 3, "d3")}},
	} {
		c, w := made(t, val("a", 5, "a5"), val("a", 2, "a2"), val("a", 8, "a8"), val("b", 3, "b3"), del("b", 6), val("b", 9, "b9"), del("c", 4), del("d", 1), val("d", 3, "d3"))
		if n := c.Trim(one.below); n != one.went {
			t.Errorf("Trim(%d): %d, not %d", one.below, n, one.went)
		}
		same(t, "All behind Trim", c.All(), one.left)
		agree(t, c, w.trim(one.below))
		if n := c.Trim(one.below); n != 0 {
			t.Errorf("Trim(%d) twice: %d", one.below, n)
		}
		agree(t, c, w.trim(one.below))
		put(t, c, val("a", 1, "back"), val("b", 3, "back"))
		agree(t, c, w.trim(one.below).with(val("a", 1, "back"), val("b", 3, "back")))
	}
	if n := cells.New().Trim(9); n != 0 {
		t.Errorf("Trim of none: %d", n)
	}
}

// P7.3: at the greatest time there is.
func TestTrimGreatest(t *testing.T) {
	c, w := made(t, val("a", math.MaxUint64, "x"), val("a", math.MaxUint64-1, "y"), del("b", math.MaxUint64), val("b", 1, "z"))
	if n := c.Trim(math.MaxUint64 - 1); n != 0 {
		t.Errorf("Trim one below the greatest time: %d", n)
	}
	if n := c.Trim(math.MaxUint64); n != 3 {
		t.Errorf("Trim at the greatest time: %d", n)
	}
	agree(t, c, w.trim(math.MaxUint64))
}

// P7.1 to P7.3: drawn Puts, Trims and Copies do what the words say, call by call.
func TestDrawn(t *testing.T) {
	r := draws()
	for range 25 {
		c, w := made(t)
		for range 25 {
			switch r.Intn(6) {
			case 0:
				below := uint64(r.Intn(9))
				left := w.trim(below)
				if n := c.Trim(below); n != len(w)-len(left) {
					t.Fatalf("Trim(%d): %d, not %d", below, n, len(w)-len(left))
				}
				w = left
			case 1:
				c = c.Copy()
			default:
				l := drawCells(r, 9)
				put(t, c, l...)
				w = w.with(l...)
			}
			has(t, c, w)
		}
		agree(t, c, w)
	}
}

// P7.5: what Get answers at a time hangs on the cells up to that time alone.
func TestGetHangs(t *testing.T) {
	r := draws()
	for range 60 {
		c, w := made(t, drawCells(r, 30)...)
		for time := range uint64(9) {
			early := cells.New()
			for _, one := range w {
				if one.Time <= time {
					put(t, early, one)
				}
			}
			later := c.Copy()
			for _, key := range w.keys() {
				put(t, later, val(key, time+1, "later"), del(key, time+2), val(key, math.MaxUint64, "last"))
			}
			for _, key := range w.someKeys() {
				want, is := c.Get(key, time)
				for _, other := range []*cells.Cells{early, later} {
					if got, there := other.Get(key, time); got != want || there != is {
						t.Fatalf("Get(%q, %d): %v, %v, not %v, %v", key, time, got, there, want, is)
					}
				}
			}
		}
	}
}

// P7.5: behind Trim(below) Get answers at each time at or above below what it answered ahead.
func TestGetBehindTrim(t *testing.T) {
	r := draws()
	for range 40 {
		c, w := made(t, drawCells(r, 30)...)
		for _, below := range w.someTimes() {
			d := c.Copy()
			d.Trim(below)
			for _, time := range append(w.someTimes(), below) {
				if time < below {
					continue
				}
				for _, key := range w.someKeys() {
					want, is := c.Get(key, time)
					if got, there := d.Get(key, time); got != want || there != is {
						t.Fatalf("Get(%q, %d) behind Trim(%d): %v, %v, not %v, %v", key, time, below, got, there, want, is)
					}
				}
				same(t, "Scan behind Trim", d.Scan("", "", time), slices.Collect(c.Scan("", "", time)))
			}
		}
	}
}

// P0.1: cells that are not there, or that New did not make, are ErrNil, or tell nothing.
func TestNoCells(t *testing.T) {
	long := strings.Repeat("k", api.MaxKey+1)
	for _, c := range []*cells.Cells{nil, {}, new(cells.Cells)} {
		for range 2 {
			for _, l := range [][]api.Cell{nil, {}, {val("k", 1, "x")}, {val("", 1, "x")}, {val(long, 1, "x")}, {val("k", 1, "x"), val("k", 0, "x")}} {
				if n, e := c.Put(l...); n != 0 || e != api.ErrNil {
					t.Errorf("Put: %d, %v", n, e)
				}
			}
			if got, is := c.Get("k", 1); got != (api.Cell{}) || is {
				t.Errorf("Get: %v, %v", got, is)
			}
			same(t, "Scan", c.Scan("", "", 9), nil)
			same(t, "Scan", c.Scan("a", "z", 9), nil)
			same(t, "All", c.All(), nil)
			same(t, "Merge", cells.Merge(c.All(), c.Scan("", "", 1)), nil)
			if c.Len() != 0 || c.Trim(0) != 0 || c.Trim(math.MaxUint64) != 0 {
				t.Errorf("Len %d, Trim %d", c.Len(), c.Trim(9))
			}
			if c.Copy() != nil {
				t.Errorf("Copy: %v", c.Copy())
			}
		}
	}
}

// P0.1: what is handed in is not changed, spare room behind it included, nor kept.
func TestArguments(t *testing.T) {
	room := []api.Cell{val("b", 1, "x"), val("a", 1, "y"), val("c", 1, "z")}
	before := slices.Clone(room)
	c := cells.New()
	put(t, c, room[:2]...)
	if !slices.Equal(room, before) {
		t.Errorf("the list is %v behind Put", room)
	}
	room[0], room[1] = val("q", 9, "q"), val("r", 9, "r")
	agree(t, c, words{val("b", 1, "x"), val("a", 1, "y")})
	for one := range c.All() {
		one.Val = "changed"
	}
	agree(t, c, words{val("b", 1, "x"), val("a", 1, "y")})
}

// P7.1 to P7.3: very many cells, rising, falling and mixed, come to be there and are found
// within the time that a test has.
func TestMany(t *testing.T) {
	const n = 30_000
	name := func(i int) string { return strconv.Itoa(n + i) }
	for what, key := range map[string]func(int) int{
		"rising":  func(i int) int { return i },
		"falling": func(i int) int { return n - 1 - i },
		"mixed":   func(i int) int { return i * 7919 % n },
	} {
		c := cells.New()
		for i := range n {
			put(t, c, val(name(key(i)), uint64(1+key(i)), ""))
		}
		i := 0
		for one := range c.All() {
			if one != val(name(i), uint64(1+i), "") {
				t.Fatalf("%s: %v at %d", what, one, i)
			}
			i++
		}
		if i != n || c.Len() != n {
			t.Errorf("%s: %d told, Len %d", what, i, c.Len())
		}
		if one, is := c.Get(name(4321), 4322); one != val(name(4321), 4322, "") || !is {
			t.Errorf("%s: %v, %v", what, one, is)
		}
		same(t, what, c.Scan(name(10), name(20), 15), slices.Collect(c.Scan(name(10), name(15), n)))
		if went := c.Trim(n); went != 0 || c.Len() != n {
			t.Errorf("%s: %d went", what, went)
		}
	}
	c := cells.New()
	for i := range n {
		put(t, c, val("k", uint64(1+i), ""))
	}
	for i := range n {
		same(t, "Scan of one key", c.Scan("", "", uint64(1+i)), []api.Cell{val("k", uint64(1+i), "")})
	}
	if went := c.Trim(n - 1); went != n-2 || c.Len() != 2 {
		t.Errorf("%d went, %d are left", went, c.Len())
	}
}
