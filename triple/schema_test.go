package triple_test

import (
	"fmt"
	"math"
	"regexp"
	"slices"
	"strings"
	"testing"

	"tessera/api"
	"tessera/triple"
	"tessera/value"
)

// allMarks are the schemas of a predicate and a type with each choice of marks.
func allMarks(pred string, kind api.ValueKind) []api.Schema {
	var out []api.Schema
	for bits := range 64 {
		has := func(i int) bool { return bits>>i&1 == 1 }
		out = append(out, api.Schema{Pred: pred, Type: kind, List: has(0), Exact: has(1), Term: has(2), Order: has(3), Reverse: has(4), Count: has(5)})
	}
	return out
}

// schemaWords is the chapter's words, written another way than in the package.
func schemaWords(form *regexp.Regexp, s api.Schema) api.Errno {
	if !form.MatchString(s.Pred) {
		return api.ErrPred
	}
	free := api.Schema{Pred: s.Pred, Type: s.Type, List: s.List, Exact: s.Exact, Count: s.Count} // without the marks that are one type's
	switch s.Type {
	case api.Bool:
	case api.Int:
		free.Order = s.Order
	case api.Text:
		free.Term = s.Term
	case api.Uid:
		free.Reverse = s.Reverse
	default:
		return api.ErrSchema
	}
	if s != free {
		return api.ErrSchema
	}
	return api.OK
}

func kinds() []api.ValueKind {
	return []api.ValueKind{api.NoValue, api.Bool, api.Int, api.Text, api.Uid, 5, 6, 255}
}

func TestSchemaExamples(t *testing.T) { // P4.2
	for _, c := range []struct {
		s api.Schema
		e api.Errno
	}{
		{api.Schema{Pred: "age", Type: api.Int, Term: true}, api.ErrSchema},
		{api.Schema{Pred: "friend", Type: api.Uid, List: true, Reverse: true}, api.OK},
		{api.Schema{Pred: "age", Type: api.Int, Order: true}, api.OK},
		{api.Schema{Pred: "name", Type: api.Text, Term: true}, api.OK},
		{api.Schema{Pred: "name", Type: api.Text, Order: true}, api.ErrSchema},
		{api.Schema{Pred: "name", Type: api.Text, Reverse: true}, api.ErrSchema},
		{api.Schema{Pred: "age", Type: api.Int, Reverse: true}, api.ErrSchema},
		{api.Schema{Pred: "friend", Type: api.Uid, Term: true}, api.ErrSchema},
		{api.Schema{Pred: "friend", Type: api.Uid, Order: true}, api.ErrSchema},
		{api.Schema{Pred: "ok", Type: api.Bool, List: true, Exact: true, Count: true}, api.OK},
		{api.Schema{Pred: "ok", Type: api.Bool, Term: true}, api.ErrSchema},
		{api.Schema{Pred: "ok", Type: api.Bool, Order: true}, api.ErrSchema},
		{api.Schema{Pred: "ok", Type: api.Bool, Reverse: true}, api.ErrSchema},
		{api.Schema{Pred: "ok"}, api.ErrSchema},
		{api.Schema{Pred: "ok", Type: 5}, api.ErrSchema},
		{api.Schema{Pred: "Age", Type: api.Int, Term: true}, api.ErrPred}, // the name is named first
		{api.Schema{}, api.ErrPred},
	} {
		if e := triple.Schema(c.s); e != c.e {
			t.Errorf("Schema(%+v): %v, wanted %v", c.s, e, c.e)
		}
	}
}

// Each choice of marks at each type, with names and with what is none.
func TestSchemaMarks(t *testing.T) { // P4.2
	form := nameForm()
	for _, pred := range []string{"a", "name", strings.Repeat("a", api.MaxPred), strings.Repeat("a", api.MaxPred+1), "", "1a", "Name"} {
		for _, kind := range kinds() {
			for _, s := range allMarks(pred, kind) {
				if e, want := triple.Schema(s), schemaWords(form, s); e != want {
					t.Errorf("Schema(%+v): %v, wanted %v", s, e, want)
				}
			}
		}
	}
}

func TestFits(t *testing.T) { // P4.2
	form := nameForm()
	for _, kind := range kinds()[1:5] {
		for _, s := range allMarks("name", kind) {
			if schemaWords(form, s) != api.OK {
				continue
			}
			for _, v := range values() {
				want := api.OK
				if v.Kind != kind {
					want = api.ErrType
				}
				checkFits(t, s, put(1, "name", v), want)
				checkFits(t, s, take(math.MaxUint64, "name", v), want)
				checkFits(t, s, put(1, "names", v), api.ErrArg) // ahead of the kind
				checkFits(t, s, take(1, "nam", v), api.ErrArg)
			}
		}
	}
}

func checkFits(t *testing.T, s api.Schema, w api.Write, want api.Errno) {
	t.Helper()
	if e := triple.Fits(s, w); e != want {
		t.Errorf("Fits(%+v, %.80v): %v, wanted %v", s, w, e, want)
	}
}

// The schema's error is told ahead of the triple's, this one ahead of the predicate and of the kind.
func TestFitsFaultsFirst(t *testing.T) { // P4.2
	good := api.Schema{Pred: "age", Type: api.Int}
	for _, c := range wrong() {
		checkFits(t, good, api.Write{T: c.t}, c.e)
		checkFits(t, good, api.Write{Del: true, T: c.t}, c.e)
		checkFits(t, api.Schema{Pred: "Age", Type: api.Int}, api.Write{T: c.t}, api.ErrPred)
		checkFits(t, api.Schema{Pred: "Age"}, api.Write{T: c.t}, api.ErrPred)
		checkFits(t, api.Schema{Pred: "age", Type: api.Int, Term: true}, api.Write{T: c.t}, api.ErrSchema)
	}
	checkFits(t, api.Schema{}, api.Write{}, api.ErrPred)
	checkFits(t, api.Schema{Pred: "age"}, api.Write{}, api.ErrSchema)
	checkFits(t, good, api.Write{}, api.ErrTriple)
	checkFits(t, api.Schema{Pred: "Age", Type: api.Int}, put(1, "Age", number(5)), api.ErrPred)
	checkFits(t, good, put(1, "age", number(5)), api.OK)
	checkFits(t, good, put(1, "age", truth(true)), api.ErrType)
	checkFits(t, good, put(1, "name", truth(true)), api.ErrArg)
}

// people are schemas, each type of one value and of many among them.
func people() []api.Schema {
	return []api.Schema{
		{Pred: "age", Type: api.Int, Order: true},
		{Pred: "friend", Type: api.Uid, List: true, Reverse: true},
		{Pred: "likes", Type: api.Text, List: true, Term: true},
		{Pred: "likes.most", Type: api.Text},
		{Pred: "marks", Type: api.Int, List: true},
		{Pred: "ok", Type: api.Bool},
		{Pred: "oks", Type: api.Bool, List: true, Count: true},
		{Pred: "parent", Type: api.Uid, Exact: true},
	}
}

// claimWords is what a write claims, in the chapter's words, written another way than in the package.
func claimWords(l []api.Schema, w api.Write) string {
	i := slices.IndexFunc(l, func(s api.Schema) bool { return s.Pred == w.T.Pred })
	key := w.T.Pred + "\x00\x01" + numWords(w.T.Uid) // a name has no byte 0
	if l[i].List {
		val, _ := value.Bytes(w.T.Val)
		key += val
	}
	return key
}

func claimsWords(l []api.Schema, w ...api.Write) []string {
	var out []string
	for _, one := range w {
		out = append(out, claimWords(l, one))
	}
	slices.Sort(out)
	return slices.Compact(out)
}

func checkClaims(t *testing.T, l []api.Schema, w []api.Write) {
	t.Helper()
	keys, at, e := triple.Claims(l, w...)
	if want := claimsWords(l, w...); !slices.Equal(keys, want) || at != len(w) || e != api.OK {
		t.Errorf("Claims of %d writes, %.200v: %.200q, %d, %v; wanted %.200q", len(w), w, keys, at, e, want)
	}
}

func checkClaimsFault(t *testing.T, l []api.Schema, w []api.Write, at int, e api.Errno) {
	t.Helper()
	if keys, i, f := triple.Claims(l, w...); len(keys) != 0 || i != at || f != e {
		t.Errorf("Claims of %d schemas, %d writes: %.80q, %d, %v; wanted none, %d, %v", len(l), len(w), keys, i, f, at, e)
	}
}

func TestClaimsExamples(t *testing.T) { // P4.3
	l := []api.Schema{{Pred: "age", Type: api.Int}, {Pred: "friend", Type: api.Uid, List: true}}
	for _, c := range []struct {
		w    []api.Write
		want []string
	}{
		{nil, nil},
		{[]api.Write{}, nil},
		{[]api.Write{put(1, "age", number(5)), take(1, "age", number(6)), put(1, "friend", node(2))}, []string{"age\x00\x01\x01\x01", "friend\x00\x01\x01\x01\x04\x01\x02"}},
		{[]api.Write{put(1, "friend", node(2)), put(1, "age", number(5))}, []string{"age\x00\x01\x01\x01", "friend\x00\x01\x01\x01\x04\x01\x02"}},
		{[]api.Write{put(1, "age", number(5)), put(1, "age", number(5))}, []string{"age\x00\x01\x01\x01"}},
		{[]api.Write{put(1, "friend", node(2)), take(1, "friend", node(2))}, []string{"friend\x00\x01\x01\x01\x04\x01\x02"}},
		{[]api.Write{put(300, "age", number(5)), put(2, "age", number(5)), put(1, "age", number(5))}, []string{"age\x00\x01\x01\x01", "age\x00\x01\x01\x02", "age\x00\x01\x02\x01\x2c"}},
		{[]api.Write{put(1, "friend", node(3)), put(1, "friend", node(2))}, []string{"friend\x00\x01\x01\x01\x04\x01\x02", "friend\x00\x01\x01\x01\x04\x01\x03"}},
	} {
		if keys, at, e := triple.Claims(l, c.w...); !slices.Equal(keys, c.want) || at != len(c.w) || e != api.OK {
			t.Errorf("Claims(%v): %q, %d, %v; wanted %q", c.w, keys, at, e, c.want)
		}
		if want := claimsWords(l, c.w...); !slices.Equal(want, c.want) {
			t.Errorf("the words say %q of %v", want, c.w)
		}
	}
	checkClaimsFault(t, nil, []api.Write{put(1, "age", number(5))}, 0, api.ErrNone)
	checkClaimsFault(t, l[:1], []api.Write{put(1, "age", truth(true))}, 0, api.ErrType)
	checkClaims(t, nil, nil)
	checkClaims(t, l, nil)
}

// fitting are writes of all sorts to the predicates of l.
func fitting(l []api.Schema) []api.Write {
	var out []api.Write
	for _, s := range l {
		for _, u := range uids() {
			for _, v := range values() {
				if v.Kind == s.Type {
					out = append(out, put(u, s.Pred, v), take(u, s.Pred, v))
				}
			}
		}
	}
	return out
}

func TestClaims(t *testing.T) { // P4.3
	l, r := people(), draws()
	all := fitting(l)
	for _, w := range all {
		checkClaims(t, l, []api.Write{w})
	}
	for n := range 200 {
		var w []api.Write
		for range r.Intn(api.MaxWrites + 1) {
			w = append(w, all[r.Intn(1+(n*7)%len(all))])
		}
		checkClaims(t, l, w)
	}
}

// Two writes claim the same just if they are of one node and one predicate, and, of many values, of one value.
func TestWhatTwoWritesClaim(t *testing.T) { // P4.4
	l := people()
	all := fitting(l)
	keys := make([]string, len(all))
	for i, w := range all {
		k, _, e := triple.Claims(l, w)
		if len(k) != 1 || e != api.OK {
			t.Fatalf("Claims(%.80v): %q, %v", w, k, e)
		}
		keys[i] = k[0]
	}
	list := map[string]bool{}
	for _, s := range l {
		list[s.Pred] = s.List
	}
	for i, a := range all {
		for j, b := range all {
			want := a.T.Uid == b.T.Uid && a.T.Pred == b.T.Pred && (!list[a.T.Pred] || a.T.Val == b.T.Val)
			if (keys[i] == keys[j]) != want || triple.Clash(keys[i:i+1], keys[j:j+1]) != want {
				t.Fatalf("%.80v and %.80v claim %.80x, %.80x", a, b, keys[i], keys[j])
			}
		}
	}
}

// numbered are n schemas that rise.
func numbered(n int) []api.Schema {
	var out []api.Schema
	for i := range n {
		out = append(out, api.Schema{Pred: fmt.Sprintf("p%03d", i), Type: api.ValueKind(1 + i%4), List: i%2 == 0})
	}
	return out
}

func TestClaimsSchemas(t *testing.T) { // P4.3
	for _, n := range []int{0, 1, 2, api.MaxSchema - 1, api.MaxSchema} {
		l := numbered(n)
		checkClaims(t, l, nil)
		for i, s := range l {
			if s.Type == api.Int {
				checkClaims(t, l, []api.Write{put(1, l[i].Pred, number(5))})
			}
		}
	}
	for _, n := range []int{1, 2, 100, 1000} {
		checkClaimsFault(t, numbered(api.MaxSchema+n), nil, api.MaxSchema, api.ErrSchema)
	}
	for _, at := range []int{0, 1, 100, api.MaxSchema - 1} {
		for _, bad := range []api.Schema{{}, {Pred: "p", Type: api.Int}, {Pred: "P", Type: api.Int}, {Pred: fmt.Sprintf("p%03d", at)}, {Pred: fmt.Sprintf("p%03d", at), Type: 5}, {Pred: fmt.Sprintf("p%03d", at), Type: api.Uid, Term: true}} {
			l := numbered(api.MaxSchema)
			l[at] = bad
			if at == 0 && bad.Pred == "p" { // as the first one it is right
				checkClaims(t, l, nil)
				continue
			}
			checkClaimsFault(t, l, nil, at, api.ErrSchema)
			checkClaimsFault(t, append(l, api.Schema{Pred: "z", Type: api.Int}), nil, at, api.ErrSchema) // the first place, also of too many
		}
	}
	for at := 1; at < 5; at++ {
		l := numbered(5)
		l[at].Pred = l[at-1].Pred // alike
		checkClaimsFault(t, l, nil, at, api.ErrSchema)
		l = numbered(5)
		l[at-1], l[at] = l[at], l[at-1] // they fall
		checkClaimsFault(t, l, nil, at, api.ErrSchema)
	}
	two := []api.Schema{{Pred: "a", Type: api.Int}, {Pred: "a", Type: api.Text, List: true}}
	checkClaimsFault(t, two, nil, 1, api.ErrSchema)
}

// A list that is no list of schemas is told ahead of too many writes, these ahead of each write's faults.
func TestClaimsFaultsFirst(t *testing.T) { // P4.3
	l := people()
	many := make([]api.Write, api.MaxWrites+1) // none of them may be
	checkClaimsFault(t, []api.Schema{{}}, many, 0, api.ErrSchema)
	checkClaimsFault(t, append(people(), api.Schema{Pred: "Z", Type: api.Int}), many, len(l), api.ErrSchema)
	checkClaimsFault(t, []api.Schema{{}}, many[:1], 0, api.ErrSchema)
	checkClaimsFault(t, l, many, api.MaxWrites, api.ErrLong)
	checkClaimsFault(t, nil, many, api.MaxWrites, api.ErrLong)
	checkClaimsFault(t, l, make([]api.Write, 10000), api.MaxWrites, api.ErrLong)
	checkClaimsFault(t, l, many[:api.MaxWrites], 0, api.ErrTriple)
	for i := range many {
		many[i] = put(uint64(i+1), "age", number(5))
	}
	checkClaims(t, l, many[:api.MaxWrites])
	checkClaimsFault(t, l, many, api.MaxWrites, api.ErrLong)
}

// Each fault of a write at each place; the first write that has one is told.
func TestClaimsWrongWrites(t *testing.T) { // P4.3
	l := people()
	faults := []struct {
		w api.Write
		e api.Errno
	}{
		{put(0, "age", number(5)), api.ErrTriple},
		{put(0, "Age", node(0)), api.ErrTriple},
		{put(1, "Age", number(5)), api.ErrPred},
		{put(1, "", node(0)), api.ErrPred},
		{put(1, "age", node(0)), api.ErrValue},
		{put(1, "nothing", node(0)), api.ErrValue}, // ahead of ErrNone
		{put(1, "age", api.Value{}), api.ErrValue}, // ahead of ErrType
		{put(1, "nothing", number(5)), api.ErrNone},
		{put(1, "ag", number(5)), api.ErrNone},
		{put(1, "agee", number(5)), api.ErrNone},
		{put(1, "a", number(5)), api.ErrNone},
		{put(1, "z", number(5)), api.ErrNone},
		{put(1, "age", text("5")), api.ErrType},
		{put(1, "friend", number(2)), api.ErrType},
		{take(1, "likes", truth(true)), api.ErrType},
		{take(1, "oks", node(1)), api.ErrType},
	}
	for n := range 4 {
		for at := range n + 1 {
			w := fitting(l)[:n+1]
			for _, f := range faults {
				w[at] = f.w
				checkClaimsFault(t, l, w, at, f.e)
				for _, g := range faults {
					checkClaimsFault(t, l, append(slices.Clone(w), g.w), at, f.e)
				}
			}
		}
	}
	for _, c := range wrong() {
		checkClaimsFault(t, l, []api.Write{{T: c.t}}, 0, c.e)
		checkClaimsFault(t, nil, []api.Write{{Del: true, T: c.t}}, 0, c.e)
	}
	last := slices.Repeat([]api.Write{put(1, "age", number(5))}, api.MaxWrites)
	last[api.MaxWrites-1] = put(1, "age", truth(true))
	checkClaimsFault(t, l, last, api.MaxWrites-1, api.ErrType)
}

func TestPreds(t *testing.T) { // P4.3
	of := func(preds ...string) []api.Write {
		var out []api.Write
		for i, p := range preds {
			out = append(out, api.Write{Del: i%2 == 0, T: api.Triple{Uid: uint64(i % 3), Pred: p}})
		}
		return out
	}
	long := strings.Repeat("a", 5000)
	for _, c := range []struct{ preds, want []string }{
		{nil, nil},
		{[]string{"name"}, []string{"name"}},
		{[]string{"name", "name"}, []string{"name"}},
		{[]string{"name", "age", "name", "friend", "age"}, []string{"age", "friend", "name"}},
		{[]string{""}, []string{""}},
		{[]string{"a", "", "1a", "Name", "\x00", "\xff", "", "a b", long, long + "b", long}, []string{"", "\x00", "1a", "Name", "a", "a b", long, long + "b", "\xff"}},
	} {
		if got := triple.Preds(of(c.preds...)...); !slices.Equal(got, c.want) {
			t.Errorf("Preds of %.80q: %.80q, wanted %.80q", c.preds, got, c.want)
		}
	}
	r := draws()
	for range 300 {
		var preds []string
		for range r.Intn(3 * api.MaxWrites) { // there is no bound here
			preds = append(preds, drawText(r, r.Intn(3)))
		}
		want := slices.Compact(slices.Sorted(slices.Values(preds)))
		if got := triple.Preds(of(preds...)...); !slices.Equal(got, want) {
			t.Fatalf("Preds of %q: %q, wanted %q", preds, got, want)
		}
	}
}

func TestClash(t *testing.T) { // P4.3
	for _, c := range []struct {
		a, b []string
		want bool
	}{
		{nil, nil, false},
		{nil, []string{""}, false},
		{[]string{}, []string{"a"}, false},
		{[]string{""}, []string{""}, true},
		{[]string{"a"}, []string{"a"}, true},
		{[]string{"a"}, []string{"b"}, false},
		{[]string{"a", "a"}, []string{"b", "b"}, false}, // twice in one is not in both
		{[]string{"a"}, []string{"A"}, false},
		{[]string{"a"}, []string{"ab"}, false},
		{[]string{"a\x00"}, []string{"a"}, false},
		{[]string{"c", "a", "b"}, []string{"z", "y", "a"}, true}, // in any order
		{[]string{"c", "b", "a"}, []string{"c", "d", "e"}, true},
		{[]string{"z", "a"}, []string{"b", "z"}, true},
		{[]string{"\xff", "\x00"}, []string{"\xfe", "\x00\x00"}, false},
	} {
		if got, back := triple.Clash(c.a, c.b), triple.Clash(c.b, c.a); got != c.want || back != c.want {
			t.Errorf("Clash(%q, %q): %v, and back %v, wanted %v", c.a, c.b, got, back, c.want)
		}
	}
	r := draws()
	for range 3000 {
		var a, b []string
		for range r.Intn(8) {
			a, b = append(a, drawText(r, r.Intn(3))), append(b, drawText(r, r.Intn(2)))
		}
		want := slices.ContainsFunc(a, func(s string) bool { return slices.Contains(b, s) })
		if got := triple.Clash(a, b); got != want {
			t.Fatalf("Clash(%q, %q): %v, wanted %v", a, b, got, want)
		}
	}
}

// What is handed in stays as it was, spare room too, and an answer is nobody else's.
func TestListsAreNotShared(t *testing.T) { // P0.1
	l, w := append(make([]api.Schema, 0, 20), people()...), append(make([]api.Write, 0, 20), put(9, "ok", truth(true)), put(1, "age", number(5)))
	a, b := append(make([]string, 0, 9), "c", "a", "b"), append(make([]string, 0, 9), "z", "y", "b")
	before := fmt.Sprint(l[:20], w[:20], a[:9], b[:9])
	keys, _, _ := triple.Claims(l, w...)
	preds := triple.Preds(w...)
	triple.Clash(a, b)
	for _, answer := range [][]string{keys, preds} {
		_ = append(answer, "more")
		for i := range answer {
			answer[i] = "other"
		}
	}
	if after := fmt.Sprint(l[:20], w[:20], a[:9], b[:9]); after != before {
		t.Errorf("what was handed in is now %s, was %s", after, before)
	}
	checkClaims(t, l, w)
	if got := triple.Preds(w...); !slices.Equal(got, []string{"age", "ok"}) {
		t.Errorf("Preds: %q", got)
	}
}

// No call panics, and what answers an error answers nothing else.
func TestNoCallPanics(t *testing.T) { // P0.1
	form, r := nameForm(), draws()
	for range 30000 {
		s := drawText(r, r.Intn(20))
		v := api.Value{Kind: api.ValueKind(r.Intn(7)), N: int64(r.Uint64() * uint64(r.Intn(2))), S: s[:r.Intn(len(s)+1)*r.Intn(2)], U: r.Uint64() * uint64(r.Intn(2))}
		w := api.Write{Del: r.Intn(2) == 0, T: said(uint64(r.Intn(2)), []string{s, drawName(r)}[r.Intn(2)], v)}
		may := triple.May(w.T)
		b, e := triple.Bytes(w)
		l, f := triple.Text(w)
		if e != may || f != may || (may == api.OK) != (b != "") || (may == api.OK) != (l != "") {
			t.Fatalf("%v: May %v, Bytes %x, %v, Text %q, %v", w, may, b, e, l, f)
		}
		if w, rest, e := triple.Read(s); e != api.OK && (w != (api.Write{}) || rest != "") {
			t.Fatalf("Read(%x): %v, %x, %v", s, w, rest, e)
		}
		if w, e := triple.ReadText(s); e != api.OK && (w != (api.Write{}) || e != api.ErrTriple) {
			t.Fatalf("ReadText(%x): %v, %v", s, w, e)
		}
		schema := allMarks(w.T.Pred, api.ValueKind(r.Intn(7)))[r.Intn(64)]
		fits := triple.Fits(schema, w)
		keys, at, e := triple.Claims([]api.Schema{schema}, w)
		switch {
		case triple.Schema(schema) != schemaWords(form, schema):
			t.Fatalf("Schema(%+v): %v", schema, triple.Schema(schema))
		case e == api.OK && (fits != api.OK || len(keys) != 1 || at != 1):
			t.Fatalf("Claims(%+v, %v): %q, %d; Fits: %v", schema, w, keys, at, fits)
		case e != api.OK && (fits == api.OK || len(keys) != 0 || at != 0):
			t.Fatalf("Claims(%+v, %v): %q, %d, %v; Fits: %v", schema, w, keys, at, e, fits)
		}
	}
}
