package triple_test

import (
	"math"
	"math/rand"
	"regexp"
	"slices"
	"strings"
	"testing"

	"tessera/api"
	"tessera/triple"
	"tessera/value"
)

// draws is the same row of numbers in every run, so that a failure comes back.
func draws() *rand.Rand { return rand.New(rand.NewSource(4)) }

func truth(b bool) api.Value   { return api.Value{Kind: api.Bool, B: b} }
func number(n int64) api.Value { return api.Value{Kind: api.Int, N: n} }
func text(s string) api.Value  { return api.Value{Kind: api.Text, S: s} }
func node(u uint64) api.Value  { return api.Value{Kind: api.Uid, U: u} }

func said(uid uint64, pred string, v api.Value) api.Triple {
	return api.Triple{Uid: uid, Pred: pred, Val: v}
}

func put(uid uint64, pred string, v api.Value) api.Write {
	return api.Write{T: said(uid, pred, v)}
}

func take(uid uint64, pred string, v api.Value) api.Write {
	return api.Write{Del: true, T: said(uid, pred, v)}
}

// drawText draws bytes of which many are those that lines, keys and names take note of.
func drawText(r *rand.Rand, n int) string {
	const marks = "\x00\x01 +-\"\\x0.9_az`{/:\n\x7f\xff"
	b := make([]byte, n)
	for i := range b {
		b[i] = byte(r.Intn(256))
		if r.Intn(2) == 0 {
			b[i] = marks[r.Intn(len(marks))]
		}
	}
	return string(b)
}

// drawName draws a predicate's name.
func drawName(r *rand.Rand) string {
	const letters, others = "abz", "abz019_."
	b := []byte{letters[r.Intn(len(letters))]}
	for range r.Intn(4) {
		b = append(b, others[r.Intn(len(others))])
	}
	return string(b)
}

func uids() []uint64 {
	return []uint64{1, 2, 9, 10, 15, 16, 255, 256, 300, 1 << 32, 1<<63 - 1, 1 << 63, math.MaxUint64}
}

func names() []string {
	return []string{"a", "z", "a0", "a9", "a.", "a_", "aa", "name", "a.b_1", "friend", strings.Repeat("a", api.MaxPred), "z" + strings.Repeat(".", api.MaxPred-1), strings.Repeat("m", api.MaxPred-1)}
}

// notNames are texts that are no predicates' names.
func notNames() []string {
	return []string{"", "1a", "Name", "nAme", "_a", ".a", "0", ".", "_", " ", " a", "a ", "a b", "a-b", "-a", "a+", "\x00", "a\x00", "a\n", "\na", "a\"", "\u00e4", "a\u00e4", "a\xff",
		strings.Repeat("a", api.MaxPred+1), strings.Repeat("a", api.MaxPred) + "A", strings.Repeat("a", 1<<20)}
}

// values are some that may be, of each kind, with the edges of each.
func values() []api.Value {
	return []api.Value{
		truth(false), truth(true),
		number(math.MinInt64), number(-1), number(0), number(5), number(math.MaxInt64),
		text(""), text("\x00"), text("\x00\x01"), text("a"), text("a b"), text(" "), text("+ 0x1 a 1"), text("\"\n\\"), text("\xff"), text(strings.Repeat("\x00", api.MaxText)), text(strings.Repeat("x", api.MaxText)),
		node(1), node(2), node(255), node(256), node(math.MaxUint64),
	}
}

// notValues are values that may not be.
func notValues() []api.Value {
	return []api.Value{{}, {N: 1}, {Kind: 5}, {Kind: 255, U: 1}, node(0), text(strings.Repeat("x", api.MaxText+1)), {Kind: api.Int, N: 1, U: 1}, {Kind: api.Bool, S: "a"}, {Kind: api.Uid, U: 1, B: true}}
}

// triples are some that may be.
func triples() []api.Triple {
	var out []api.Triple
	for _, u := range uids() {
		for _, p := range names() {
			for _, v := range values() {
				out = append(out, said(u, p, v))
			}
		}
	}
	return out
}

// someWrites are of all triples that may be a part that goes through each uid, name and value, put and taken away.
func someWrites() []api.Write {
	var out []api.Write
	for i, t := range triples() {
		if i%7 == 0 {
			out = append(out, api.Write{T: t}, api.Write{Del: true, T: t})
		}
	}
	return out
}

// wrongTriple is a triple that may not be, and which error tells so.
type wrongTriple struct {
	t api.Triple
	e api.Errno
}

// wrong are triples that may not be: each fault alone, and with those that are named behind it.
func wrong() []wrongTriple {
	var out []wrongTriple
	for _, v := range append(notValues(), text("a")) {
		for _, p := range append(notNames(), "name") {
			out = append(out, wrongTriple{said(0, p, v), api.ErrTriple})
			if p != "name" {
				out = append(out, wrongTriple{said(1, p, v), api.ErrPred})
			}
		}
		if v != text("a") {
			out = append(out, wrongTriple{said(1, "name", v), api.ErrValue})
		}
	}
	return out
}

// nameForm is the chapter's words of a name, written another way than in the package.
func nameForm() *regexp.Regexp { return regexp.MustCompile(`^[a-z][a-z0-9_.]{0,63}$`) }

func checkPred(t *testing.T, form *regexp.Regexp, s string) {
	t.Helper()
	want := api.ErrPred
	if form.MatchString(s) {
		want = api.OK
	}
	if e := triple.Pred(s); e != want {
		t.Errorf("Pred(%.80q): %v, wanted %v", s, e, want)
	}
}

func TestPredExamples(t *testing.T) { // P4.1
	for _, s := range names() {
		if e := triple.Pred(s); e != api.OK {
			t.Errorf("Pred(%q): %v", s, e)
		}
	}
	for _, s := range notNames() {
		if e := triple.Pred(s); e != api.ErrPred {
			t.Errorf("Pred(%.80q): %v, wanted ErrPred", s, e)
		}
	}
}

// Each byte stands first, behind another one, and last in a name of each length around the bounds.
func TestPredByBytes(t *testing.T) { // P4.1
	form := nameForm()
	for i := range 256 {
		c := string([]byte{byte(i)})
		for _, n := range []int{0, 1, 2, 62, 63, 64, 65} {
			checkPred(t, form, c+strings.Repeat("a", n))
			checkPred(t, form, strings.Repeat("a", n)+c)
			checkPred(t, form, "a"+c+strings.Repeat("0", n))
		}
	}
	r := draws()
	for range 20000 {
		checkPred(t, form, drawText(r, r.Intn(6)))
		checkPred(t, form, drawName(r)+drawText(r, r.Intn(2)))
	}
}

func TestMay(t *testing.T) { // P4.1
	for _, x := range triples() {
		if e := triple.May(x); e != api.OK {
			t.Errorf("May(%.80v): %v", x, e)
		}
	}
	for _, c := range wrong() {
		if e := triple.May(c.t); e != c.e {
			t.Errorf("May(%.80v): %v, wanted %v", c.t, e, c.e)
		}
	}
	if e := triple.May(api.Triple{}); e != api.ErrTriple {
		t.Errorf("May of no triple at all: %v, wanted ErrTriple", e)
	}
}

func TestCmpExamples(t *testing.T) { // P4.1
	for _, c := range []struct {
		a, b api.Triple
		want int
	}{
		{said(1, "a", number(1)), said(1, "a", number(1)), 0},
		{said(9, "a", node(9)), said(1, "b", truth(false)), -1}, // the predicate tells first
		{said(1, "a", node(9)), said(2, "a", truth(false)), -1}, // the uid ahead of the value
		{said(1, "a", truth(true)), said(1, "a", number(-5)), -1},
		{said(1, "a", number(-5)), said(1, "a", number(3)), -1},
		{said(1, "a", text("ab")), said(1, "a", text("b")), -1},
		{said(1, "a", text("z")), said(1, "a", node(1)), -1},
		{said(1, "a", number(1)), said(1, "aa", number(1)), -1},
		{said(1, "a.", number(1)), said(1, "a0", number(1)), -1}, // names byte by byte
		{said(1, "a9", number(1)), said(1, "a_", number(1)), -1},
		{said(1, "a_", number(1)), said(1, "aa", number(1)), -1},
		{said(9, "a", number(1)), said(10, "a", number(1)), -1},
		{said(1<<63-1, "a", number(1)), said(1<<63, "a", number(1)), -1},
		{said(1, "a", number(1)), said(math.MaxUint64, "a", number(1)), -1},
	} {
		if got, e := triple.Cmp(c.a, c.b); got != c.want || e != api.OK {
			t.Errorf("Cmp(%v, %v): %d, %v; wanted %d", c.a, c.b, got, e, c.want)
		}
		if got, e := triple.Cmp(c.b, c.a); got != -c.want || e != api.OK {
			t.Errorf("Cmp(%v, %v): %d, %v; wanted %d", c.b, c.a, got, e, -c.want)
		}
	}
}

// Of two that may not be the first one's error is told.
func TestCmpFaults(t *testing.T) { // P4.1
	good := said(1, "name", text("a"))
	for _, c := range wrong() {
		for _, pair := range [][2]api.Triple{{c.t, good}, {good, c.t}, {c.t, c.t}} {
			if got, e := triple.Cmp(pair[0], pair[1]); got != 0 || e != c.e {
				t.Errorf("Cmp(%.80v, %.80v): %d, %v; wanted %v", pair[0], pair[1], got, e, c.e)
			}
		}
	}
	three := []wrongTriple{{said(0, "name", text("a")), api.ErrTriple}, {said(1, "Name", text("a")), api.ErrPred}, {said(1, "name", node(0)), api.ErrValue}}
	for _, a := range three {
		for _, b := range three {
			if got, e := triple.Cmp(a.t, b.t); got != 0 || e != a.e {
				t.Errorf("Cmp(%v, %v): %d, %v; wanted the first one's %v", a.t, b.t, got, e, a.e)
			}
		}
	}
}

// cmpWords is the chapter's order, written another way than in the package.
func cmpWords(a, b api.Triple) int {
	vals, _ := value.Cmp(a.Val, b.Val)
	switch {
	case a == b:
		return 0
	case a.Pred < b.Pred, a.Pred == b.Pred && a.Uid < b.Uid, a.Pred == b.Pred && a.Uid == b.Uid && vals < 0:
		return -1
	}
	return 1
}

func TestOrderIsTotal(t *testing.T) { // P4.1, P4.4
	all, r := triples(), draws()
	near := func(a api.Triple) api.Triple { // another one that shares parts with it
		b := all[r.Intn(len(all))]
		if r.Intn(2) == 0 {
			b.Pred = a.Pred
		}
		if r.Intn(2) == 0 {
			b.Uid = a.Uid
		}
		return b
	}
	for range 60000 {
		a := all[r.Intn(len(all))]
		b := near(a)
		c := near(b)
		ab, e := triple.Cmp(a, b)
		ba, _ := triple.Cmp(b, a)
		bc, _ := triple.Cmp(b, c)
		ac, _ := triple.Cmp(a, c)
		switch {
		case e != api.OK || ab != cmpWords(a, b):
			t.Fatalf("Cmp(%.80v, %.80v): %d, %v; wanted %d", a, b, ab, e, cmpWords(a, b))
		case ab != -ba || (ab == 0) != (a == b):
			t.Fatalf("%.80v, %.80v: %d one way, %d the other", a, b, ab, ba)
		case ab <= 0 && bc <= 0 && ac > 0:
			t.Fatalf("%.80v, %.80v, %.80v rise, but the last one is below the first", a, b, c)
		}
	}
	for _, a := range all {
		if c, e := triple.Cmp(a, a); c != 0 || e != api.OK {
			t.Fatalf("Cmp of %.80v and itself: %d, %v", a, c, e)
		}
	}
}

// Rising in a sort is rising by the words: predicate by predicate, node by node.
func TestSortedByCmp(t *testing.T) { // P4.4
	all := someWrites()
	slices.SortFunc(all, func(a, b api.Write) int {
		c, e := triple.Cmp(a.T, b.T)
		if e != api.OK {
			t.Fatalf("Cmp: %v", e)
		}
		return c
	})
	for i := range len(all) - 1 {
		if cmpWords(all[i].T, all[i+1].T) > 0 {
			t.Fatalf("%.80v stands ahead of %.80v", all[i], all[i+1])
		}
	}
}
