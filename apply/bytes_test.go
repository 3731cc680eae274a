package apply_test

import (
	"fmt"
	"reflect"
	"strconv"
	"strings"
	"testing"

	"tessera/api"
	"tessera/apply"
)

// P15.4: bytes by hand.
func TestBytesExamples(t *testing.T) {
	l, w := begin(texts())
	bytesAre(t, l, w.write, "00"+"00"+"00")
	bytesAre(t, l, func(string) string { return "ab" }, "00"+"00"+"0102"+"6162")
	next(t, l, w, api.Entry{Kind: api.Noop})
	bytesAre(t, l, w.write, "0101"+"00"+"00")
	next(t, l, w, ask(256, 1, "A"))
	bytesAre(t, l, w.write, "0102"+"0101"+"020100"+"0101"+"00"+"0102"+"413b")
	next(t, l, w, ask(7, 258, "B")) // its answer is the state that was: A;
	bytesAre(t, l, w.write, "0103"+"0102"+"0107"+"020102"+"0102413b"+"020100"+"0101"+"00"+"0104"+"413b423b")
	next(t, l, w, ask(255, greatest, "C"))
	bytesAre(t, l, func(string) string { return "" }, "0104"+"0103"+"0107"+"020102"+"0102413b"+
		"01ff"+"08ffffffffffffffff"+"0104413b423b"+"020100"+"0101"+"00"+"00")
}

func bytesAre[S any](t *testing.T, l *apply.Loop[S], write func(S) string, want string) {
	t.Helper()
	s, e := l.Bytes(write)
	if got := fmt.Sprintf("%x", s); got != want || e != api.OK {
		t.Errorf("Bytes: %s, %v, not %s", got, e, want)
	}
}

// P15.4: no function is ErrArg, and nothing is changed by it.
func TestBytesOfNoFunction(t *testing.T) {
	l, w := begin(ints())
	for range 3 {
		if s, e := l.Bytes(nil); s != "" || e != api.ErrArg {
			t.Errorf("Bytes of no function: %x, %v", s, e)
		}
		agree(t, l, w)
		next(t, l, w, ask(1, l.Index()+1, "a"))
	}
}

// P15.4: what makes the state's bytes is asked of the state as it is, and what it makes stands there whole.
func TestBytesOfState(t *testing.T) {
	for _, made := range []string{"", "\x00", "a", strings.Repeat("\xff", 255), strings.Repeat("x", 256), strings.Repeat("y", 1<<17), "\x01\x02"} {
		first := &chain{data: "first"}
		l := apply.New(first, chains().step)
		s, e := l.Bytes(func(c *chain) string {
			if c != first {
				t.Error("asked of another state")
			}
			return made
		})
		if s != "\x00\x00"+textWords(made) || e != api.OK {
			t.Errorf("Bytes with a state of %d bytes: %d, %v", len(made), len(s), e)
		}
		other, e := apply.Read(s, func(s string) (*chain, bool) {
			if s != made {
				t.Errorf("state read of %d bytes, not of %d", len(s), len(made))
			}
			return first, true
		}, chains().step)
		if e != api.OK || other.State() != first {
			t.Errorf("Read: %v", e)
		}
	}
}

// P15.4: very many clients are told rising by their numbers, in whatever order they came, and read back.
func TestBytesOfMany(t *testing.T) {
	r := draws()
	l, w := begin(nothing())
	for _, at := range r.Perm(3000) {
		client := uint64(at + 1)
		if at%3 == 0 {
			client = client << (at % 50)
		}
		l.Apply(l.Index()+1, ask(client, uint64(at+1), strconv.Itoa(at)))
	}
	s, e := l.Bytes(w.write)
	if e != api.OK {
		t.Fatalf("Bytes: %v", e)
	}
	read := &loose{s: s}
	index, many := read.num(), read.num()
	before := uint64(0)
	for range many {
		client, seq, answer := read.num(), read.num(), read.text()
		if client <= before {
			t.Fatalf("client %d behind %d", client, before)
		}
		if n, last, is := l.Last(client); n != seq || last != answer || !is {
			t.Fatalf("client %d: %d, %q, and told %d, %q, %v", client, seq, answer, n, last, is)
		}
		before = client
	}
	if index != 3000 || many < 2000 || read.bad || read.s != "\x00" {
		t.Errorf("index %d, %d clients, %x behind them", index, many, read.s)
	}
	for range 3 {
		if again, _ := l.Bytes(w.write); again != s {
			t.Fatal("other bytes of the same loop")
		}
	}
	other, e := apply.Read(s, w.read, w.step)
	if again, f := other.Bytes(w.write); again != s || e != api.OK || f != api.OK {
		t.Errorf("written again: %v, %v", e, f)
	}
}

// rejected fails unless Read answers ErrArg and no loop.
func rejected[S any](t *testing.T, why, s string, state func(string) (S, bool), step func(S, string) (S, string)) {
	t.Helper()
	if l, e := apply.Read(s, state, step); l != nil || e != api.ErrArg {
		t.Errorf("%s: Read of %.80x: %+v, %v", why, s, l, e)
	}
}

// P15.4: functions that are nil, whatever the bytes are.
func TestReadOfNoFunctions(t *testing.T) {
	k := ints()
	good := "\x00\x00" + textWords("0")
	for _, s := range []string{good, "", "x", good + "x"} {
		rejected(t, "no state", s, nil, k.step)
		rejected(t, "no step", s, k.read, nil)
		rejected[int](t, "neither", s, nil, nil)
	}
	if l, e := apply.Read(good, k.read, k.step); l == nil || e != api.OK {
		t.Errorf("Read of both: %v", e)
	}
}

// P15.4: a state that says false is ErrArg, whatever it answers beside that.
func TestReadOfNoState(t *testing.T) {
	for _, s := range []string{"\x00\x00\x00", "\x01\x05\x00" + textWords("0"), "\x01\x05\x01\x01" + commandWords(7, 1, "abc") + textWords("12")} {
		for _, n := range []int{0, 12} {
			rejected(t, "false", s, func(string) (int, bool) { return n, false }, ints().step)
			l, e := apply.Read(s, func(string) (int, bool) { return n, true }, ints().step)
			if e != api.OK || l.State() != n {
				t.Errorf("true: %v", e)
			}
		}
	}
	k := ints()
	rejected(t, "no number", "\x00\x00"+textWords("x"), k.read, k.step)
	rejected(t, "nothing", "\x00\x00\x00", k.read, k.step)
}

// P15.4: bytes that are no loop's, each for one reason.
func TestReadFaults(t *testing.T) {
	k := texts()
	one, two, three := commandWords(7, 1, "abc"), commandWords(8, 1, ""), commandWords(256, 5, "x")
	bytes := func(index, many uint64, clients ...string) string {
		return numWords(index) + numWords(many) + strings.Join(clients, "") + textWords("state")
	}
	for why, s := range map[string]string{
		"no clients":                bytes(5, 0),
		"one":                       bytes(5, 1, one),
		"three":                     bytes(5, 3, one, two, three),
		"the greatest numbers":      bytes(greatest, 1, commandWords(greatest, greatest, "\x00")),
		"more clients than entries": bytes(0, 1, one),
	} {
		l, e := apply.Read(s, k.read, k.step)
		w, is := wordsOf(k, s)
		if e != api.OK || !is {
			t.Errorf("%s: %v, by the words %v", why, e, is)
			continue
		}
		agree(t, l, w)
		for n := range len(s) {
			rejected(t, "a beginning of "+why, s[:n], k.read, k.step)
		}
		for _, behind := range []string{"x", "\x00", "\x00\x00", s} {
			rejected(t, "something behind "+why, s+behind, k.read, k.step)
		}
	}
	for why, s := range map[string]string{
		"nothing":                       "",
		"a letter":                      "x",
		"one client twice":              bytes(5, 2, one, one),
		"one client, twice of three":    bytes(5, 3, one, two, commandWords(8, 9, "")),
		"clients that fall":             bytes(5, 2, two, one),
		"clients that fall at last":     bytes(5, 3, one, three, two),
		"in the order of texts":         bytes(5, 2, commandWords(10, 1, ""), commandWords(9, 1, "")),
		"the client 0":                  bytes(5, 1, commandWords(0, 1, "abc")),
		"the client 0 ahead":            bytes(5, 2, commandWords(0, 1, "abc"), one),
		"the client 0 behind":           bytes(5, 2, one, commandWords(0, 1, "abc")),
		"the number 0":                  bytes(5, 1, commandWords(7, 0, "abc")),
		"the number 0 behind":           bytes(5, 2, one, commandWords(8, 0, "abc")),
		"one client fewer than said":    bytes(5, 2, one),
		"one client more than said":     bytes(5, 1, one, two),
		"as many as there may be":       bytes(5, greatest, one, two),
		"as many, and nothing":          numWords(5) + numWords(greatest),
		"an index with a nought ahead":  "\x02\x00\x05" + "\x00" + textWords("state"),
		"an index 0 that is a byte":     "\x01\x00" + "\x00" + textWords("state"),
		"an index of nine bytes":        "\x09\x01\x01\x01\x01\x01\x01\x01\x01\x01" + "\x00" + textWords("state"),
		"a count with a nought ahead":   "\x01\x05" + "\x02\x00\x01" + one + textWords("state"),
		"a count 0 that is a byte":      "\x01\x05" + "\x01\x00" + textWords("state"),
		"a client with a nought ahead":  bytes(5, 1, "\x02\x00\x07"+numWords(1)+textWords("abc")),
		"a number with a nought ahead":  bytes(5, 1, numWords(7)+"\x02\x00\x01"+textWords("abc")),
		"an answer with a nought ahead": bytes(5, 1, numWords(7)+numWords(1)+"\x02\x00\x03abc"),
		"a state with a nought ahead":   "\x01\x05" + "\x00" + "\x02\x00\x01s",
		"no state":                      numWords(5) + numWords(1) + one,
		"a state too short":             numWords(5) + numWords(1) + one + "\x01\x06state",
		"a state too long":              numWords(5) + numWords(1) + one + "\x01\x04state",
		"a state's length goes round":   numWords(5) + numWords(0) + "\x08\xff\xff\xff\xff\xff\xff\xff\xffstate",
		"an answer's length goes round": numWords(5) + numWords(1) + numWords(7) + numWords(1) + "\x08\xff\xff\xff\xff\xff\xff\xff\xffabc" + textWords("state"),
	} {
		if _, is := wordsOf(k, s); is {
			t.Errorf("%s: a loop by the words", why)
		}
		rejected(t, why, s, k.read, k.step)
	}
}

// agreeRead fails unless Read says of bytes what the words say.
func agreeRead[S any](t *testing.T, k kind[S], s string) bool {
	t.Helper()
	l, e := apply.Read(s, k.read, k.step)
	w, is := wordsOf(k, s)
	switch {
	case !is && (l != nil || e != api.ErrArg):
		t.Fatalf("%s: Read of %x: %v, %v", k.name, s, l, e)
	case is && (l == nil || e != api.OK):
		t.Fatalf("%s: Read of %x: %v, %v, not %+v", k.name, s, l, e, w)
	case is:
		agree(t, l, w)
	}
	return is
}

// P15.4: all short rows of the bytes that count.
func TestReadOfShortRows(t *testing.T) {
	loops := 0
	eachRow("\x00\x01\x02", 11, func(s string) {
		if agreeRead(t, texts(), s) {
			loops++
		}
	})
	eachRow("\x00\x01\x059", 7, func(s string) {
		if agreeRead(t, ints(), s) {
			loops++
		}
	})
	if loops < 200 {
		t.Errorf("only %d loops among the rows", loops)
	}
}

// P15.4, P0.8: of loops' bytes, beginnings, what has something behind it, and what has a byte changed, added or taken
// away are what the words say.
func TestReadEdited(t *testing.T) {
	r := draws()
	l, w := begin(ints())
	for _, entry := range []api.Entry{
		{Kind: api.Noop}, ask(300, 2, "answer"), ask(7, 1, ""), ask(8, 255, "b"), ask(7, 256, "c"), ask(greatest, 1, ""),
	} {
		next(t, l, w, entry)
		s := w.bytes()
		if !agreeRead(t, w.kind, s) {
			t.Fatalf("no loop by the words: %x", s)
		}
		for n := range len(s) {
			if agreeRead(t, w.kind, s[:n]) {
				t.Errorf("a beginning of a loop's bytes is one's: %x", s[:n])
			}
		}
		edited(s, 60, func(s string) { agreeRead(t, w.kind, s) })
		for range 20000 {
			b := []byte(s)
			for range 2 + r.Intn(3) {
				b[r.Intn(len(b))] = byte(r.Intn(4) * r.Intn(4))
			}
			agreeRead(t, w.kind, string(b))
		}
	}
}

// P15.4: a loop that was read takes the step that it is handed, not the one of the loop that was written.
func TestReadTakesTheStep(t *testing.T) {
	l, w := begin(ints())
	next(t, l, w, ask(7, 1, "abc"))
	s, _ := l.Bytes(w.write)
	other, e := apply.Read(s, w.read, func(n int, data string) (int, string) { return -n, "other" })
	if e != api.OK {
		t.Fatalf("Read: %v", e)
	}
	if answer, e := other.Apply(2, ask(7, 1, "abc")); answer != "0abc" || e != api.OK || other.State() != 4 {
		t.Errorf("the same again: %q, %v, %d", answer, e, other.State())
	}
	if answer, e := other.Apply(3, ask(7, 2, "abc")); answer != "other" || e != api.OK || other.State() != -4 {
		t.Errorf("by another step: %q, %v, %d", answer, e, other.State())
	}
	agree(t, l, w)
}

// P15.4: what is read may be of another type than what was written.
func TestReadOfAnotherType(t *testing.T) {
	l, w := begin(ints())
	next(t, l, w, ask(7, 1, "abc"))
	s, _ := l.Bytes(w.write)
	other, e := apply.Read(s, texts().read, texts().step)
	if e != api.OK || other.State() != "4" || other.Index() != 1 {
		t.Fatalf("Read: %v, %+v", e, other)
	}
	if seq, answer, is := other.Last(7); seq != 1 || answer != "0abc" || !is {
		t.Errorf("Last: %d, %q, %v", seq, answer, is)
	}
	if answer, e := other.Apply(2, ask(7, 2, "x")); answer != "4" || e != api.OK || other.State() != "4x;" {
		t.Errorf("Apply: %q, %v, %q", answer, e, other.State())
	}
	if reflect.TypeOf(other.State()).Kind() != reflect.String {
		t.Error("no text")
	}
}
