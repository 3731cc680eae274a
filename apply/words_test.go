package apply_test

import (
	"encoding/binary"
	"math/big"
	"math/rand"
	"slices"
	"strings"
	"testing"

	"tessera/api"
	"tessera/apply"
)

// draws is the same row of numbers in every run, so that a failure comes back.
func draws() *rand.Rand { return rand.New(rand.NewSource(15)) }

const greatest = ^uint64(0)

// numWords and textWords are chapter 2's words, written another way than in its package.
func numWords(x uint64) string {
	all := string(binary.BigEndian.AppendUint64(nil, x))
	short := strings.TrimLeft(all, "\x00")
	return string([]byte{byte(len(short))}) + short
}

func textWords(s string) string { return numWords(uint64(len(s))) + s }

func commandWords(client, seq uint64, data string) string {
	return numWords(client) + numWords(seq) + textWords(data)
}

// loose takes numbers and texts in whatever form they are, those with noughts ahead too. What was read so is held
// against what its one form is.
type loose struct {
	s   string
	bad bool
}

func (r *loose) take(n uint64) string {
	if n > uint64(len(r.s)) {
		r.bad = true
	}
	if r.bad {
		return ""
	}
	t := r.s[:n]
	r.s = r.s[n:]
	return t
}

func (r *loose) num() uint64 {
	head := r.take(1)
	if r.bad || head[0] > 8 {
		r.bad = true
		return 0
	}
	body := r.take(uint64(head[0]))
	if r.bad {
		return 0
	}
	return binary.BigEndian.Uint64([]byte(strings.Repeat("\x00", 8-len(body)) + body))
}

func (r *loose) text() string { return r.take(r.num()) }

// commandOf is the command whose bytes s is, if there is one.
func commandOf(s string) (c command, is bool) {
	r := &loose{s: s}
	c = command{r.num(), r.num(), r.text()}
	is = !r.bad && c.client != 0 && c.seq != 0 && len(s) <= api.MaxRecord && commandWords(c.client, c.seq, c.data) == s
	if !is {
		return command{}, false
	}
	return c, true
}

type command struct {
	client, seq uint64
	data        string
}

// done is a command that was done, or that was known to be as a loop began, with its answer.
type done struct {
	client, seq uint64
	answer      string
}

// words is a loop as the chapter has it: what it began with, and all entries that were applied to it since, which are
// folded anew whenever it is asked.
type words[S any] struct {
	kind[S]
	began uint64
	known []done
	row   []api.Entry
}

// kind is a type of states, with a first one, a step that changes nothing that is handed in, and its states as bytes.
type kind[S any] struct {
	name  string
	first S
	step  func(S, string) (S, string)
	write func(S) string
	read  func(string) (S, bool)
}

func begin[S any](k kind[S]) (*apply.Loop[S], *words[S]) {
	return apply.New(k.first, k.step), &words[S]{kind: k}
}

// fold is the state, all that was done, and what the last entry was answered.
func (w *words[S]) fold() (state S, did []done, answer string, e api.Errno) {
	state, did = w.first, slices.Clone(w.known)
	for _, entry := range w.row {
		answer, e = "", api.OK
		if entry.Kind != api.Plain {
			continue
		}
		c, is := commandOf(entry.Data)
		if !is {
			e = api.ErrCommand
			continue
		}
		last, has := lastOf(did, c.client)
		switch {
		case has && c.seq < last.seq:
			e = api.ErrOld
		case has && c.seq == last.seq:
			answer = last.answer
		default:
			state, answer = w.step(state, c.data)
			did = append(did, done{c.client, c.seq, answer})
		}
	}
	return state, did, answer, e
}

// lastOf is what was done last of a client.
func lastOf(did []done, client uint64) (done, bool) {
	for _, d := range slices.Backward(did) {
		if d.client == client {
			return d, true
		}
	}
	return done{}, false
}

func (w *words[S]) index() uint64 { return w.began + uint64(len(w.row)) }

func (w *words[S]) apply(index uint64, entry api.Entry) (string, api.Errno) {
	next := new(big.Int).SetUint64(w.index())
	next.Add(next, big.NewInt(1))
	if new(big.Int).SetUint64(index).Cmp(next) != 0 {
		return "", api.ErrArg
	}
	w.row = append(slices.Clip(w.row), entry)
	_, _, answer, e := w.fold()
	return answer, e
}

func (w *words[S]) copy() *words[S] {
	out := *w
	return &out
}

func (w *words[S]) bytes() string {
	state, did, _, _ := w.fold()
	var clients []uint64
	for _, d := range did {
		clients = append(clients, d.client)
	}
	slices.Sort(clients)
	clients = slices.Compact(clients)
	out := numWords(w.index()) + numWords(uint64(len(clients)))
	for _, client := range clients {
		last, _ := lastOf(did, client)
		out += numWords(client) + numWords(last.seq) + textWords(last.answer)
	}
	return out + textWords(w.write(state))
}

// wordsOf is the words' loop whose bytes s is, if there is one.
func wordsOf[S any](k kind[S], s string) (w *words[S], is bool) {
	r := &loose{s: s}
	w = &words[S]{kind: k, began: r.num()}
	var clients []uint64
	for range r.num() {
		d := done{r.num(), r.num(), r.text()}
		if r.bad {
			return nil, false
		}
		w.known, clients = append(w.known, d), append(clients, d.client)
		if d.client == 0 || d.seq == 0 {
			return nil, false
		}
	}
	state := r.text()
	if r.bad || !slices.IsSorted(clients) || len(slices.Compact(clients)) != len(w.known) {
		return nil, false
	}
	w.first, is = k.read(state)
	if !is || w.bytes() != s {
		return nil, false
	}
	return w, true
}

// agree fails unless a loop tells what the words' one has.
func agree[S any](t *testing.T, l *apply.Loop[S], w *words[S]) {
	t.Helper()
	state, did, _, _ := w.fold()
	if l.Index() != w.index() {
		t.Fatalf("%s: Index %d, not %d, behind %+v", w.name, l.Index(), w.index(), w.row)
	}
	if got, want := w.write(l.State()), w.write(state); got != want {
		t.Fatalf("%s: State %q, not %q, behind %+v", w.name, got, want, w.row)
	}
	asked := []uint64{0, 1, 2, 3, 4, 255, 256, greatest - 1, greatest}
	for _, d := range did {
		asked = append(asked, d.client)
	}
	for _, client := range asked {
		want, has := lastOf(did, client)
		if seq, answer, is := l.Last(client); seq != want.seq || answer != want.answer || is != has {
			t.Fatalf("%s: Last(%d): %d, %q, %v, not %+v, %v, behind %+v", w.name, client, seq, answer, is, want, has, w.row)
		}
	}
	if got, e := l.Bytes(w.write); got != w.bytes() || e != api.OK {
		t.Fatalf("%s: Bytes: %x, %v, not %x, behind %+v", w.name, got, e, w.bytes(), w.row)
	}
}

// both applies an entry to a loop and to the words' one, and fails unless they answer the same.
func both[S any](t *testing.T, l *apply.Loop[S], w *words[S], index uint64, entry api.Entry) (string, api.Errno) {
	t.Helper()
	answer, e := l.Apply(index, entry)
	if want, f := w.apply(index, entry); answer != want || e != f {
		t.Fatalf("%s: Apply(%d, %+v): %q, %v, not %q, %v, behind %+v", w.name, index, entry, answer, e, want, f, w.row)
	}
	return answer, e
}

// next applies an entry behind the last one.
func next[S any](t *testing.T, l *apply.Loop[S], w *words[S], entry api.Entry) (string, api.Errno) {
	t.Helper()
	return both(t, l, w, l.Index()+1, entry)
}

// ask is the entry of a client's command.
func ask(client, seq uint64, data string) api.Entry {
	return api.Entry{Term: 1, Data: commandWords(client, seq, data)}
}
