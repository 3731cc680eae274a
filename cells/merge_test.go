package cells_test

import (
	"iter"
	"math"
	"slices"
	"strings"
	"testing"

	"tessera/api"
	"tessera/cells"
)

// P7.4: by key, then the greater time first; both ways round; by nothing else.
func TestCmp(t *testing.T) {
	rising := []api.Cell{
		{}, val("\x00", 1, ""), val("a", math.MaxUint64, ""), val("a", math.MaxUint64-1, ""), val("a", 1<<63, ""), val("a", 1<<63-1, ""), val("a", 2, ""), val("a", 1, ""), val("a", 0, ""),
		val("a\x00", 1, ""), val("ab", 9, ""), val("ab", 1, ""), val("b", 5, ""), val("\x7f", 1, ""), val("\x80", 1, ""), val("\xff", 3, ""), val("\xff\xff", 3, ""), val(strings.Repeat("\xff", 2*api.MaxKey), 3, ""),
	}
	for i, a := range rising {
		for j, b := range rising {
			want := 0
			if i < j {
				want = -1
			} else if i > j {
				want = 1
			}
			for _, other := range []api.Cell{a, {Key: a.Key, Time: a.Time, Del: true}, val(a.Key, a.Time, "zz")} {
				if got := cells.Cmp(other, b); got != want {
					t.Errorf("Cmp(%.30v, %.30v): %d, not %d", other, b, got, want)
				}
				if got := cells.Cmp(b, other); got != -want {
					t.Errorf("Cmp(%.30v, %.30v): %d, not %d", b, other, got, -want)
				}
			}
		}
	}
}

// list tells these cells, in the order in which they stand.
func list(l ...api.Cell) iter.Seq[api.Cell] { return slices.Values(l) }

func none(func(api.Cell) bool) {}

// P7.4: none, nil ones, ones that tell nothing, one, several.
func TestMerge(t *testing.T) {
	a := []api.Cell{val("a", 3, "x"), del("a", 2), val("c", 1, "")}
	b := []api.Cell{val("a", 1, "y"), val("b", 9, "z"), val("d", 1, "")}
	both := []api.Cell{a[0], a[1], b[0], b[1], a[2], b[2]}
	for what, one := range map[string]struct {
		list []iter.Seq[api.Cell]
		want []api.Cell
	}{
		"none":                          {nil, nil},
		"an empty list":                 {[]iter.Seq[api.Cell]{}, nil},
		"a nil one":                     {[]iter.Seq[api.Cell]{nil}, nil},
		"nil ones":                      {[]iter.Seq[api.Cell]{nil, nil, nil}, nil},
		"one that tells nothing":        {[]iter.Seq[api.Cell]{none}, nil},
		"some that tell nothing":        {[]iter.Seq[api.Cell]{none, nil, list(), none}, nil},
		"one":                           {[]iter.Seq[api.Cell]{list(a...)}, a},
		"one among those with nothing":  {[]iter.Seq[api.Cell]{nil, none, list(a...), nil, none}, a},
		"two":                           {[]iter.Seq[api.Cell]{list(a...), list(b...)}, both},
		"two, the other way round":      {[]iter.Seq[api.Cell]{list(b...), list(a...)}, both},
		"two with nothing between":      {[]iter.Seq[api.Cell]{none, list(a...), nil, none, list(b...), nil}, both},
		"one twice":                     {[]iter.Seq[api.Cell]{list(a...), list(a...)}, a},
		"one ahead of all of the other": {[]iter.Seq[api.Cell]{list(a[2:]...), list(a[:2]...)}, a},
		"merges":                        {[]iter.Seq[api.Cell]{cells.Merge(list(a[:1]...), list(b...)), cells.Merge(), cells.Merge(list(a[1:]...))}, both},
		"cells that may not be put":     {[]iter.Seq[api.Cell]{list(api.Cell{}, val("a", 0, "")), list(val("", 7, "x"), api.Cell{Val: "no"})}, []api.Cell{val("", 7, "x"), {}, val("a", 0, "")}},
		"nothing of a cell, alone":      {[]iter.Seq[api.Cell]{list(api.Cell{})}, []api.Cell{{}}},
	} {
		same(t, what, cells.Merge(one.list...), one.want)
	}
}

// P7.4: of several with one key and one time that of the first of the list is told, alone,
// wherever else they stand.
func TestMergeAlike(t *testing.T) {
	a := []api.Cell{val("k", 5, "a"), val("k", 3, "a"), val("m", 1, "a")}
	b := []api.Cell{val("j", 1, "b"), del("k", 5), val("k", 4, "b"), val("k", 3, "b")}
	c := []api.Cell{val("k", 6, "c"), val("k", 5, "c"), val("k", 4, "c"), val("m", 1, "c"), val("n", 1, "c")}
	same(t, "a b c", cells.Merge(list(a...), list(b...), list(c...)), []api.Cell{b[0], c[0], a[0], b[2], a[1], a[2], c[4]})
	same(t, "c b a", cells.Merge(list(c...), nil, list(b...), list(a...)), []api.Cell{b[0], c[0], c[1], c[2], b[3], c[3], c[4]})
	same(t, "b c a", cells.Merge(list(b...), list(c...), none, list(a...)), []api.Cell{b[0], c[0], b[1], b[2], b[3], c[3], c[4]})
	same(t, "a b a c", cells.Merge(list(a...), list(b...), list(a...), list(c...)), []api.Cell{b[0], c[0], a[0], b[2], a[1], a[2], c[4]})
	var many []iter.Seq[api.Cell]
	for i := range 50 {
		many = append(many, list(val("k", 2, string(rune('A'+i))), val("k", 1, string(rune('A'+i)))))
	}
	same(t, "fifty alike", cells.Merge(many...), []api.Cell{val("k", 2, "A"), val("k", 1, "A")})
	slices.Reverse(many)
	same(t, "fifty alike, the other way round", cells.Merge(many...), []api.Cell{val("k", 2, "r"), val("k", 1, "r")})
}

// P7.5: Merge of All of parts is All of the whole; where parts have one key and one time
// it is All of what the first ones were put into last.
func TestMergeParts(t *testing.T) {
	r := draws()
	for range 300 {
		parts := make([]*cells.Cells, r.Intn(6))
		all := make([]iter.Seq[api.Cell], len(parts))
		for i := range parts {
			parts[i] = cells.New()
			all[i] = parts[i].All()
		}
		_, apart := made(t)
		if len(parts) > 0 {
			_, apart = made(t, drawCells(r, 60)...)
		}
		whole := cells.New()
		for _, one := range apart {
			put(t, parts[r.Intn(len(parts))], one)
			put(t, whole, one)
		}
		same(t, "Merge of parts", cells.Merge(all...), slices.Collect(whole.All()))
		for _, part := range parts {
			put(t, part, drawCells(r, 20)...)
		}
		whole = cells.New()
		for _, part := range slices.Backward(parts) {
			put(t, whole, slices.Collect(part.All())...)
		}
		same(t, "Merge of parts that overlap", cells.Merge(all...), slices.Collect(whole.All()))
	}
}

// watched is a list of cells that says how often it was begun, asked, and given back.
type watched struct {
	cells               []api.Cell
	begun, asked, ended int
}

func (w *watched) tell(yield func(api.Cell) bool) {
	w.begun++
	defer func() { w.ended++ }()
	for _, c := range w.cells {
		w.asked++
		if !yield(c) {
			return
		}
	}
}

func watch() (a, b *watched, both iter.Seq[api.Cell]) {
	a = &watched{cells: []api.Cell{val("a", 1, "a"), val("c", 1, "a"), val("e", 1, "a")}}
	b = &watched{cells: []api.Cell{val("b", 1, "b"), val("c", 1, "b"), val("d", 1, "b")}}
	return a, b, cells.Merge(a.tell, b.tell)
}

// P7.4: each is gone over once, when going over begins; left early, each is given back,
// and was asked for no more than one cell that was not told.
func TestMergeLeft(t *testing.T) {
	for left, want := range [][2]int{{1, 1}, {2, 1}, {2, 2}, {3, 3}, {3, 3}} {
		a, b, both := watch()
		if a.begun != 0 || b.begun != 0 {
			t.Fatalf("begun ahead of the going over")
		}
		for again := 1; again <= 2; again++ {
			told := ""
			for c := range both {
				if a.begun != again || b.begun != again || a.ended+b.ended > 2*again {
					t.Fatalf("begun %d and %d times", a.begun, b.begun)
				}
				told += c.Key + c.Val
				if len(told) > 2*left {
					break
				}
			}
			if told != "aabbcadbea"[:2*left+2] {
				t.Errorf("left at %d: %s", left, told)
			}
			if a.begun != again || b.begun != again || a.ended != again || b.ended != again {
				t.Errorf("left at %d: begun %d and %d times, ended %d and %d", left, a.begun, b.begun, a.ended, b.ended)
			}
			if a.asked != again*want[0] || b.asked != again*want[1] {
				t.Errorf("left at %d: asked %d and %d times, not %d and %d", left, a.asked, b.asked, again*want[0], again*want[1])
			}
		}
	}
}

// P7.4: where the one that goes over panics, each is given back all the same.
func TestMergePanic(t *testing.T) {
	a, b, both := watch()
	func() {
		defer func() { recover() }()
		for range both {
			panic("left")
		}
	}()
	if a.begun != 1 || b.begun != 1 || a.ended != 1 || b.ended != 1 {
		t.Errorf("begun %d and %d times, ended %d and %d", a.begun, b.begun, a.ended, b.ended)
	}
}

// P7.4: of ones that have no end as much is told as is asked for.
func TestMergeEndless(t *testing.T) {
	endless := func(yield func(api.Cell) bool) {
		for time := uint64(math.MaxUint64); yield(val("k", time, "")); time-- {
		}
	}
	n := uint64(0)
	for c := range cells.Merge(endless, list(val("j", 1, ""), val("k", math.MaxUint64-3, "x")), endless) {
		if want := val("k", math.MaxUint64-n+1, ""); n > 0 && c != want || n == 0 && c != val("j", 1, "") {
			t.Fatalf("%v at %d", c, n)
		}
		if n++; n > 10 {
			break
		}
	}
	if n != 11 {
		t.Errorf("%d told", n)
	}
}

// P0.1, P7.4: what there is when going over begins is told, of each; the list itself is
// neither changed nor kept.
func TestMergeOnTheWay(t *testing.T) {
	a, b := cells.New(), cells.New()
	room := []iter.Seq[api.Cell]{a.All(), b.All(), list(val("spare", 1, ""))}
	both := cells.Merge(room[:2]...)
	if got := slices.Collect(room[2]); len(got) != 1 || got[0].Key != "spare" {
		t.Errorf("the spare room has %v", got)
	}
	room[0], room[1] = nil, list(val("other", 1, ""))
	put(t, a, val("a", 1, "x"), val("c", 1, "x"))
	put(t, b, val("b", 1, "y"), val("d", 1, "y"))
	want := []api.Cell{val("a", 1, "x"), val("b", 1, "y"), val("c", 1, "x"), val("d", 1, "y")}
	var got []api.Cell
	for c := range both {
		got = append(got, c)
		put(t, a, val("c", 2, "new"), val("z", 1, "new"))
		put(t, b, val("a\x00", 1, "new"), val("b", 1, "new"))
		b.Trim(9)
	}
	if !slices.Equal(got, want) {
		t.Errorf("%v, not %v", got, want)
	}
	same(t, "again", both, words(want).with(val("c", 2, "new"), val("z", 1, "new"), val("a\x00", 1, "new"), val("b", 1, "new")).all())
}
