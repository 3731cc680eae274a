package apply_test

import (
	"math"
	"reflect"
	"strings"
	"testing"

	"tessera/api"
	"tessera/apply"
)

// P15.2, P15.3: the chapter's examples.
func TestExamples(t *testing.T) {
	l := apply.New(0, func(n int, data string) (int, string) { return n + len(data), "answer of " + data })
	c, e := apply.Command(7, 1, "abc")
	if e != api.OK {
		t.Fatalf("Command: %v", e)
	}
	steps := []struct {
		why      string
		index    uint64
		entry    api.Entry
		answer   string
		e        api.Errno
		state    int
		ended    uint64
		seq      uint64
		lastWord string
	}{
		{"the first", 1, api.Entry{Data: c}, "answer of abc", api.OK, 3, 1, 1, "answer of abc"},
		{"the same again", 2, api.Entry{Data: c}, "answer of abc", api.OK, 3, 2, 1, "answer of abc"},
		{"its second", 3, ask(7, 2, "x"), "answer of x", api.OK, 4, 3, 2, "answer of x"},
		{"its first again", 4, api.Entry{Data: c}, "", api.ErrOld, 4, 4, 2, "answer of x"},
		{"far behind", 9, ask(7, 3, "y"), "", api.ErrArg, 4, 4, 2, "answer of x"},
		{"a Noop", 5, api.Entry{Kind: api.Noop}, "", api.OK, 4, 5, 2, "answer of x"},
	}
	for _, s := range steps {
		answer, e := l.Apply(s.index, s.entry)
		if answer != s.answer || e != s.e || l.State() != s.state || l.Index() != s.ended {
			t.Errorf("%s: %q, %v, state %d, index %d", s.why, answer, e, l.State(), l.Index())
		}
		if seq, word, is := l.Last(7); seq != s.seq || word != s.lastWord || !is {
			t.Errorf("%s: Last: %d, %q, %v", s.why, seq, word, is)
		}
	}
}

// P15.2, P15.3: a new loop has its state, whatever type that is, the index 0, and no clients.
func TestNew(t *testing.T) {
	began(t, ints())
	began(t, texts())
	began(t, nothing())
	began(t, structs())
	began(t, lists())
	began(t, tallies())
	began(t, chains())
	began(t, anys())
	began(t, funcs())
	began(t, arrays())
}

func began[S any](t *testing.T, k kind[S]) {
	t.Helper()
	l, w := begin(k)
	if l == nil {
		t.Fatalf("%s: New is nil", k.name)
	}
	agree(t, l, w)
	if answer, e := next(t, l, w, api.Entry{Kind: api.Noop}); answer != "" || e != api.OK || l.Index() != 1 {
		t.Errorf("%s: the first entry: %q, %v, index %d", k.name, answer, e, l.Index())
	}
	agree(t, l, w)
	if l := apply.New(k.first, nil); l != nil {
		t.Errorf("%s: New of no step: %+v", k.name, l)
	}
}

// P15.3: a state is told as the value that the step answered, not as one like it.
func TestStateIsTheValue(t *testing.T) {
	first, second := &chain{data: "first"}, &chain{data: "second"}
	l := apply.New(first, func(c *chain, data string) (*chain, string) { return second, c.data })
	if l.State() != first || l.Copy().State() != first {
		t.Error("another first state")
	}
	if answer, e := l.Apply(1, ask(1, 1, "")); answer != "first" || e != api.OK || l.State() != second || l.Copy().State() != second {
		t.Errorf("another state behind a step: %q, %v", answer, e)
	}
}

// P15.2: only the index behind Index is applied; at any other one nothing is changed, whatever the entry is.
func TestApplyIndex(t *testing.T) {
	for _, from := range []uint64{0, 1, 2, 255, 256, 1<<32 - 1, 1 << 32, 1<<63 - 1, 1 << 63, greatest - 2, greatest - 1, greatest} {
		w := &words[int]{kind: ints(), began: from, known: []done{{7, 3, "told"}}}
		l, e := apply.Read(w.bytes(), w.read, w.step)
		if e != api.OK {
			t.Fatalf("Read of index %d: %v", from, e)
		}
		for _, entry := range []api.Entry{
			ask(7, 4, "new"), ask(7, 3, "same"), ask(7, 2, "old"), ask(8, 1, "another"),
			{Data: "none"}, {}, {Kind: api.Noop}, {Kind: api.Seats, Members: []int{1}}, {Kind: 9},
		} {
			for _, index := range []uint64{from, from - 1, from + 2, 0, 1, 2, 255, 256, 257, 1 << 63, greatest - 1, greatest} {
				if index == from+1 && from != greatest {
					continue
				}
				if answer, e := l.Apply(index, entry); answer != "" || e != api.ErrArg {
					t.Errorf("Apply(%d) behind %d: %q, %v", index, from, answer, e)
				}
			}
		}
		agree(t, l, w)
		both(t, l, w, from+1, ask(7, 4, "new"))
		if from == greatest && l.Index() != greatest {
			t.Errorf("behind the greatest index came %d", l.Index())
		}
		agree(t, l, w)
	}
}

// P15.2: entries that are not Plain do nothing, whatever they have; a Plain one is done by its Data alone.
func TestApplyKinds(t *testing.T) {
	l, w := begin(ints())
	c := commandWords(7, 1, "abc")
	for _, entry := range []api.Entry{
		{Kind: api.Noop}, {Kind: api.Seats, Members: []int{1, 2}},
		{Kind: api.Noop, Data: c}, {Kind: api.Seats, Data: c}, {Kind: 3, Data: c}, {Kind: 255, Data: c, Term: greatest},
		{Kind: api.Noop, Data: "none"}, {Kind: api.Seats, Data: "none"}, {Kind: 255},
	} {
		if answer, e := next(t, l, w, entry); answer != "" || e != api.OK {
			t.Errorf("Apply of %+v: %q, %v", entry, answer, e)
		}
		if _, _, is := l.Last(7); is || l.State() != 0 {
			t.Errorf("%+v was done", entry)
		}
		agree(t, l, w)
	}
	for i, entry := range []api.Entry{
		{Data: commandWords(7, 1, "a")}, {Data: commandWords(7, 2, "b"), Term: greatest}, {Data: commandWords(7, 3, "c"), Members: []int{-1, 0, -1}},
	} {
		if answer, e := next(t, l, w, entry); e != api.OK || !strings.HasSuffix(answer, string("abc"[i])) {
			t.Errorf("Apply of %+v: %q, %v", entry, answer, e)
		}
		agree(t, l, w)
	}
}

// P15.2: of entries that are no command, and of old ones, Index is theirs, and nothing else is changed.
func TestApplyFaults(t *testing.T) {
	l, w := begin(texts())
	next(t, l, w, ask(7, 5, "a"))
	next(t, l, w, ask(8, 1, "b"))
	state := l.State()
	for _, one := range []struct {
		entry api.Entry
		e     api.Errno
	}{
		{api.Entry{}, api.ErrCommand},
		{api.Entry{Data: "x"}, api.ErrCommand},
		{ask(0, 1, "c"), api.ErrCommand},
		{ask(9, 0, "c"), api.ErrCommand},
		{ask(7, 0, "c"), api.ErrCommand}, // no command at all, though 0 is below 5
		{api.Entry{Data: commandWords(7, 6, "c") + "x"}, api.ErrCommand},
		{api.Entry{Data: commandWords(7, 6, "c")[:5]}, api.ErrCommand},
		{api.Entry{Data: "\x02\x00\x07" + numWords(6) + textWords("c")}, api.ErrCommand},
		{ask(7, 6, strings.Repeat("c", api.MaxRecord)), api.ErrCommand},
		{ask(7, 4, "c"), api.ErrOld},
		{ask(7, 1, "c"), api.ErrOld},
		{ask(7, 4, "a"), api.ErrOld},
	} {
		index := l.Index()
		if answer, e := next(t, l, w, one.entry); answer != "" || e != one.e {
			t.Errorf("Apply of %.60q: %q, %v, not %v", one.entry.Data, answer, e, one.e)
		}
		if l.Index() != index+1 || l.State() != state {
			t.Errorf("behind %.60q: index %d, state %q", one.entry.Data, l.Index(), l.State())
		}
		agree(t, l, w)
	}
}

// P15.2: a number that is the client's last one is answered as that was, whatever its data are; one above it is done,
// however far; each client's numbers are its own; the greatest numbers are as others.
func TestApplyNumbers(t *testing.T) {
	l, w := begin(ints())
	for _, one := range []struct {
		client, seq uint64
		data        string
		answer      string
		e           api.Errno
	}{
		{7, 10, "a", "0a", api.OK},
		{7, 10, "a", "0a", api.OK},
		{7, 10, "other", "0a", api.OK},
		{8, 10, "b", "2b", api.OK}, // right behind one of another client
		{7, 10, "", "0a", api.OK},
		{8, 10, "", "2b", api.OK},
		{8, 9, "c", "", api.ErrOld},
		{7, 11, "c", "4c", api.OK},
		{8, 10, "", "2b", api.OK},
		{7, 10, "a", "", api.ErrOld},
		{7, 1000, "", "6", api.OK},
		{7, 999, "", "", api.ErrOld},
		{greatest, 1, "d", "7d", api.OK},
		{greatest, greatest, "e", "9e", api.OK},
		{greatest, greatest, "f", "9e", api.OK},
		{greatest, greatest - 1, "f", "", api.ErrOld},
		{greatest, 1, "f", "", api.ErrOld},
		{greatest - 1, 1, "g", "11g", api.OK},
		{1, greatest, "h", "13h", api.OK},
		{1, 1, "h", "", api.ErrOld},
	} {
		if answer, e := next(t, l, w, ask(one.client, one.seq, one.data)); answer != one.answer || e != one.e {
			t.Errorf("Apply of %+v: %q, %v", one, answer, e)
		}
		agree(t, l, w)
	}
}

// P15.2: the step is done once for each command that is done, with the state as it is and the command's data, and for
// nothing else.
func TestApplyStepsOnce(t *testing.T) {
	var got []string
	l := apply.New("s", func(s, data string) (string, string) {
		got = append(got, s+"+"+data)
		return s + data, ""
	})
	for i, entry := range []api.Entry{
		ask(1, 1, "a"), ask(1, 1, "b"), ask(2, 1, "b"), {Kind: api.Noop, Data: commandWords(3, 1, "c")},
		{Data: "c"}, ask(1, 3, ""), ask(1, 2, "c"), ask(2, 1, "d"), ask(2, 2, "\x00"),
	} {
		if _, e := l.Apply(uint64(i)+5, ask(9, 9, "z")); e != api.ErrArg {
			t.Fatalf("far behind: %v", e)
		}
		l.Apply(uint64(i)+1, entry)
		l.Apply(uint64(i)+1, ask(9, 9, "z"))
	}
	if want := []string{"s+a", "sa+b", "sab+", "sab+\x00"}; !reflect.DeepEqual(got, want) {
		t.Errorf("steps %q, not %q", got, want)
	}
}

// P15.2, P15.3: an answer of no bytes is one, too.
func TestApplyOfNoAnswer(t *testing.T) {
	l := apply.New(0, func(n int, data string) (int, string) { return n + 1, "" })
	for i := range uint64(3) {
		if answer, e := l.Apply(i+1, ask(4, 2, "x")); answer != "" || e != api.OK || l.State() != 1 {
			t.Errorf("Apply: %q, %v, state %d", answer, e, l.State())
		}
		if seq, answer, is := l.Last(4); seq != 2 || answer != "" || !is {
			t.Errorf("Last: %d, %q, %v", seq, answer, is)
		}
	}
}

// P15.3: of a client that there is none of nothing is told, though others are.
func TestLastOfNobody(t *testing.T) {
	l, w := begin(ints())
	for _, entry := range []api.Entry{ask(7, 4, "a"), ask(300, 1, "b"), {Data: "x"}, {Kind: api.Noop, Data: commandWords(6, 1, "c")}} {
		next(t, l, w, entry)
	}
	for _, client := range []uint64{0, 1, 4, 6, 8, 299, 44, 7 << 8, 7 << 32, greatest} {
		if seq, answer, is := l.Last(client); seq != 0 || answer != "" || is {
			t.Errorf("Last(%d): %d, %q, %v", client, seq, answer, is)
		}
	}
}

// P15.3: what is applied to a copy, or to what it was made of, is not applied to the other one.
func TestCopy(t *testing.T) {
	l, w := begin(lists())
	next(t, l, w, ask(7, 1, "a"))
	next(t, l, w, ask(8, 1, "b"))
	c, v := l.Copy(), w.copy()
	agree(t, c, v)
	next(t, l, w, ask(7, 2, "of the first"))
	agree(t, c, v)
	next(t, c, v, ask(7, 3, "of the copy"))
	next(t, c, v, ask(9, 1, "of the copy"))
	agree(t, l, w)
	agree(t, c, v)
	d, x := c.Copy(), v.copy()
	next(t, d, x, ask(8, 2, "of the copy's copy"))
	next(t, c, v, api.Entry{Kind: api.Noop})
	next(t, l, w, ask(8, 1, "again"))
	agree(t, l, w)
	agree(t, c, v)
	agree(t, d, x)
	if l.Copy() == l {
		t.Error("a copy that is no other one")
	}
}

// P15.3: a copy of a new loop goes on as one.
func TestCopyOfNew(t *testing.T) {
	l, w := begin(tallies())
	c, v := l.Copy(), w.copy()
	next(t, c, v, ask(1, 1, "a"))
	agree(t, l, w)
	next(t, l, w, ask(1, 1, "b"))
	agree(t, c, v)
}

// P0.1: an entry that is handed in is not changed, spare room included, and what is done to it later counts for nothing.
func TestApplyKeepsNoEntry(t *testing.T) {
	l, w := begin(ints())
	all := []int{3, 2, 1, -5, -6}
	entry := api.Entry{Term: 3, Data: commandWords(7, 1, "abc"), Members: all[:3]}
	answer, _ := next(t, l, w, entry)
	if !reflect.DeepEqual(all, []int{3, 2, 1, -5, -6}) {
		t.Errorf("members are %v", all)
	}
	all[0], entry.Data = 99, "changed"
	if again, e := l.Apply(2, ask(7, 1, "")); again != answer || e != api.OK {
		t.Errorf("the same again: %q, %v", again, e)
	}
}

// P0.1: a nil loop, and a zero one, answers ErrNil and zero values in every call, whatever it is handed.
func TestNilLoops(t *testing.T) {
	none(t, ints())
	none(t, texts())
	none(t, nothing())
	none(t, structs())
	none(t, lists())
	none(t, tallies())
	none(t, chains())
	none(t, anys())
	none(t, funcs())
	none(t, arrays())
}

func none[S any](t *testing.T, k kind[S]) {
	t.Helper()
	for name, l := range map[string]*apply.Loop[S]{"nil": nil, "zero": {}, "new": new(apply.Loop[S])} {
		for range 2 {
			for _, index := range []uint64{0, 1, 2, math.MaxUint64} {
				for _, entry := range []api.Entry{{}, {Kind: api.Noop}, {Kind: 9}, {Data: "x"}, ask(1, 1, "a")} {
					if answer, e := l.Apply(index, entry); answer != "" || e != api.ErrNil {
						t.Errorf("%s %s: Apply(%d, %+v): %q, %v", name, k.name, index, entry, answer, e)
					}
				}
			}
			if l.Index() != 0 || l.Copy() != nil || !reflect.ValueOf(l.State).Call(nil)[0].IsZero() {
				t.Errorf("%s %s: index %d, state %v, copy %v", name, k.name, l.Index(), l.State(), l.Copy())
			}
			for _, client := range []uint64{0, 1, math.MaxUint64} {
				if seq, answer, is := l.Last(client); seq != 0 || answer != "" || is {
					t.Errorf("%s %s: Last(%d): %d, %q, %v", name, k.name, client, seq, answer, is)
				}
			}
			for _, write := range []func(S) string{nil, k.write, func(S) string { return "something" }} {
				if s, e := l.Bytes(write); s != "" || e != api.ErrNil {
					t.Errorf("%s %s: Bytes: %x, %v", name, k.name, s, e)
				}
			}
		}
	}
}
