package value_test

import (
	"bytes"
	"encoding/binary"
	"math"
	"math/rand"
	"slices"
	"strings"
	"testing"

	"tessera/api"
	"tessera/value"
)

// draws is the same row of numbers in every run, so that a failure comes back.
func draws() *rand.Rand { return rand.New(rand.NewSource(3)) }

func truth(b bool) api.Value   { return api.Value{Kind: api.Bool, B: b} }
func number(n int64) api.Value { return api.Value{Kind: api.Int, N: n} }
func text(s string) api.Value  { return api.Value{Kind: api.Text, S: s} }
func node(u uint64) api.Value  { return api.Value{Kind: api.Uid, U: u} }

// drawText draws bytes of which many are those that literals, keys and terms take note of.
func drawText(r *rand.Rand, n int) string {
	const marks = "\x00\x01\n\x1f !\"09AZ[\\^az{~\x7f\x80\xff"
	b := make([]byte, n)
	for i := range b {
		b[i] = byte(r.Intn(256))
		if r.Intn(2) == 0 {
			b[i] = marks[r.Intn(len(marks))]
		}
	}
	return string(b)
}

func texts() []string {
	out := []string{"", "a", "ab", "b", "z", "a\x00", "a\x00b", "a\x00\x01", "a\x01", "\x00\x00", "\x00\xff", "\xff\xff", "\"\n", "\\n", "\\x41", "true", "0x1", "7", "\u00e4\u20ac", "\xc3\x28"}
	for i := range 256 {
		out = append(out, string([]byte{byte(i)}))
	}
	r := draws()
	for n := range 200 {
		out = append(out, drawText(r, n), drawText(r, r.Intn(5)))
	}
	return append(out, strings.Repeat("\x00", api.MaxText), strings.Repeat("\xff", api.MaxText), strings.Repeat("a", api.MaxText-1))
}

// values are some that may be, of each kind, with the edges of each; some stand there twice.
func values() []api.Value {
	out := []api.Value{truth(false), truth(true), number(0), number(math.MinInt64), number(math.MaxInt64), node(math.MaxUint64)}
	r := draws()
	for i := range 64 {
		x := r.Uint64() >> i
		out = append(out, number(1<<i), number(-1<<i), number(1<<i-1), number(int64(x)), number(-int64(x)))
		out = append(out, node(1<<i), node(1<<i|1), node(x|1))
	}
	for _, s := range texts() {
		out = append(out, text(s))
	}
	return out
}

// wrong are values that may not be: of no kind, with a field of another kind, or beyond their bound.
func wrong() []api.Value {
	long := strings.Repeat("a", api.MaxText+1)
	out := []api.Value{
		{}, {B: true}, {N: 1}, {S: "a"}, {U: 1},
		{Kind: 5}, {Kind: 5, U: 1}, {Kind: 255}, {Kind: 255, B: true, N: 1, S: "a", U: 1},
		text(long), text(strings.Repeat("\x00", 3*api.MaxText)), node(0),
		{Kind: api.Text, S: "a", U: 1}, {Kind: api.Text, U: 1}, {Kind: api.Text, N: math.MinInt64},
		{Kind: api.Uid, S: long}, {Kind: api.Uid, U: 1, S: long}, {Kind: api.Bool, S: long}, {Kind: api.Int, S: long},
	}
	for kind := api.Bool; kind <= api.Uid; kind++ {
		all := api.Value{Kind: kind, B: true, N: -1, S: "a", U: 1}
		out = append(out, all)
		for own := api.Bool; own <= api.Uid; own++ { // each field that is another kind's, beside the kind's own
			v := fieldOf(all, kind)
			switch w := fieldOf(all, own); own {
			case kind:
				continue
			case api.Bool:
				v.B = w.B
			case api.Int:
				v.N = w.N
			case api.Text:
				v.S = w.S
			case api.Uid:
				v.U = w.U
			}
			out = append(out, v)
		}
	}
	return out
}

// fieldOf is all's kind with the field of one kind alone.
func fieldOf(all api.Value, kind api.ValueKind) api.Value {
	return []api.Value{{Kind: all.Kind}, {Kind: all.Kind, B: all.B}, {Kind: all.Kind, N: all.N}, {Kind: all.Kind, S: all.S}, {Kind: all.Kind, U: all.U}}[kind]
}

// bytesWords is the chapter's words, written another way than in the package.
func bytesWords(v api.Value) string {
	out := []byte{byte(v.Kind)}
	switch v.Kind {
	case api.Bool:
		out = append(out, map[bool]byte{false: 0, true: 1}[v.B])
	case api.Int:
		out = binary.BigEndian.AppendUint64(out, uint64(v.N)^1<<63)
	case api.Text:
		out = append(out, strings.ReplaceAll(v.S, "\x00", "\x00\xff")+"\x00\x01"...)
	case api.Uid:
		short := bytes.TrimLeft(binary.BigEndian.AppendUint64(nil, v.U), "\x00")
		out = append(append(out, byte(len(short))), short...)
	}
	return string(out)
}

// cmpWords is the chapter's order, written another way than in the package.
func cmpWords(a, b api.Value) int {
	below := a.Kind < b.Kind
	if a.Kind == b.Kind {
		below = []bool{false, !a.B && b.B, a.N < b.N, a.S < b.S, a.U < b.U}[a.Kind]
	}
	switch {
	case a == b:
		return 0
	case below:
		return -1
	}
	return 1
}

func TestMay(t *testing.T) { // P3.1
	for _, v := range values() {
		if e := value.May(v); e != api.OK {
			t.Errorf("May(%v): %v", v, e)
		}
	}
	for _, v := range wrong() {
		if e := value.May(v); e != api.ErrValue {
			t.Errorf("May(%.60v): %v, wanted ErrValue", v, e)
		}
	}
}

func TestCmpExamples(t *testing.T) { // P3.1
	for _, c := range []struct {
		a, b api.Value
		want int
	}{
		{truth(true), number(-5), -1},
		{text("b"), text("ab"), 1},
		{node(1), text("z"), 1},
		{truth(false), truth(true), -1},
		{truth(true), truth(true), 0},
		{number(math.MinInt64), number(math.MaxInt64), -1},
		{number(-1), number(0), -1},
		{number(math.MaxInt64), text(""), -1},
		{text(""), text("\x00"), -1},
		{text("a"), text("a\x00"), -1},
		{text("Z"), text("a"), -1},
		{text("\x7f"), text("\x80"), -1},
		{text(strings.Repeat("\xff", api.MaxText)), node(1), -1},
		{node(1), node(math.MaxUint64), -1},
		{node(1 << 63), node(1<<63 - 1), 1},
		{node(300), node(300), 0},
	} {
		if got, e := value.Cmp(c.a, c.b); got != c.want || e != api.OK {
			t.Errorf("Cmp(%v, %v): %d, %v; wanted %d", c.a, c.b, got, e, c.want)
		}
		if got, e := value.Cmp(c.b, c.a); got != -c.want || e != api.OK {
			t.Errorf("Cmp(%v, %v): %d, %v; wanted %d", c.b, c.a, got, e, -c.want)
		}
	}
}

func TestWrongValues(t *testing.T) { // P3.1, P3.2
	good := text("a")
	for _, v := range wrong() {
		for _, pair := range [][2]api.Value{{v, good}, {good, v}, {v, v}, {v, number(7)}, {truth(true), v}} {
			if c, e := value.Cmp(pair[0], pair[1]); c != 0 || e != api.ErrValue {
				t.Errorf("Cmp(%.60v, %.60v): %d, %v, wanted ErrValue", pair[0], pair[1], c, e)
			}
		}
		if s, e := value.Bytes(v); s != "" || e != api.ErrValue {
			t.Errorf("Bytes(%.60v): %x, %v, wanted ErrValue", v, s, e)
		}
		if s, e := value.Text(v); s != "" || e != api.ErrValue {
			t.Errorf("Text(%.60v): %q, %v, wanted ErrValue", v, s, e)
		}
		for _, l := range [][]api.Value{{v}, {v, good}, {good, v}, {good, v, good}, {v, v}} {
			if out, e := value.Sort(l...); len(out) != 0 || e != api.ErrValue {
				t.Errorf("Sort(%.90v): %v, %v, wanted ErrValue", l, out, e)
			}
		}
	}
}

func TestBytesExamples(t *testing.T) { // P3.1
	for _, c := range []struct {
		v    api.Value
		want string
	}{
		{truth(false), "\x01\x00"},
		{truth(true), "\x01\x01"},
		{number(-1), "\x02\x7f\xff\xff\xff\xff\xff\xff\xff"},
		{number(0), "\x02\x80\x00\x00\x00\x00\x00\x00\x00"},
		{number(math.MinInt64), "\x02\x00\x00\x00\x00\x00\x00\x00\x00"},
		{number(math.MaxInt64), "\x02\xff\xff\xff\xff\xff\xff\xff\xff"},
		{text(""), "\x03\x00\x01"},
		{text("a"), "\x03a\x00\x01"},
		{text("a\x00b"), "\x03a\x00\xffb\x00\x01"},
		{node(1), "\x04\x01\x01"},
		{node(300), "\x04\x02\x01\x2c"},
		{node(math.MaxUint64), "\x04\x08\xff\xff\xff\xff\xff\xff\xff\xff"},
	} {
		if got, e := value.Bytes(c.v); got != c.want || e != api.OK {
			t.Errorf("Bytes(%v): %x, %v; wanted %x", c.v, got, e, c.want)
		}
	}
}

// What is written is read, whatever stands behind it; what ends early is short, wherever it ends.
func TestBytesThereAndBack(t *testing.T) { // P3.1, P3.3
	for _, v := range values() {
		b, e := value.Bytes(v)
		if b != bytesWords(v) || e != api.OK {
			t.Errorf("Bytes(%v): %x, %v; wanted %x", v, b, e, bytesWords(v))
		}
		for _, rest := range []string{"", "\x00", "\x01", "\xff", "\x00\x01", "\x04\x00", "any bytes", strings.Repeat("\x09", 50)} {
			if got, left, e := value.Read(b + rest); got != v || left != rest || e != api.OK {
				t.Errorf("Read(%x): %v, %x, %v; wanted %v, %x", b+rest, got, left, e, v, rest)
			}
		}
		for cut := range min(len(b), 60) {
			checkReadFault(t, b[:cut], api.ErrShort)
		}
	}
}

func checkReadFault(t *testing.T, s string, want api.Errno) {
	t.Helper()
	if v, rest, e := value.Read(s); v != (api.Value{}) || rest != "" || e != want {
		t.Errorf("Read(%.60x): %v, %x, %v; wanted %v", s, v, rest, e, want)
	}
}

func TestReadFaults(t *testing.T) { // P3.1
	long := strings.Repeat("a", api.MaxText+1)
	for _, c := range []struct {
		s string
		e api.Errno
	}{
		{"", api.ErrShort},
		{"\x00", api.ErrValue},
		{"\x00\x01\x01", api.ErrValue},
		{"\x05", api.ErrValue},
		{"\x05\x01\x01", api.ErrValue},
		{"\x09", api.ErrValue},
		{"\xff", api.ErrValue},
		{"\x01", api.ErrShort},
		{"\x01\x02", api.ErrForm},
		{"\x01\xffmore", api.ErrForm},
		{"\x02", api.ErrShort},
		{"\x02\x80\x00\x00\x00\x00\x00\x00", api.ErrShort},
		{"\x03", api.ErrShort},
		{"\x03a", api.ErrShort},
		{"\x03a\x00", api.ErrShort},
		{"\x03a\x00\x02", api.ErrForm},
		{"\x03a\x00\x00\x01", api.ErrForm},
		{"\x03" + long, api.ErrShort}, // layer 2's error is named ahead of what may not be
		{"\x03" + long + "\x00\x02", api.ErrForm},
		{"\x03" + long + "\x00\x01", api.ErrValue},
		{"\x03" + strings.Repeat("\x00\xff", api.MaxText+1) + "\x00\x01more", api.ErrValue},
		{"\x04", api.ErrShort},
		{"\x04\x00", api.ErrValue},
		{"\x04\x00more", api.ErrValue},
		{"\x04\x09", api.ErrForm},
		{"\x04\x01", api.ErrShort},
		{"\x04\x02\x00", api.ErrShort},
		{"\x04\x01\x00", api.ErrForm},
		{"\x04\x02\x00\x01", api.ErrForm},
	} {
		checkReadFault(t, c.s, c.e)
	}
	whole := "\x03" + long[1:] + "\x00\x01"
	if v, rest, e := value.Read(whole + "\x01"); v != text(long[1:]) || rest != "\x01" || e != api.OK {
		t.Errorf("a text of MaxText bytes is read as one of %d, %x left, %v", len(v.S), rest, e)
	}
}

// Whatever bytes are read without a fault are those that the value is written as.
func TestBytesHaveOneForm(t *testing.T) { // P3.3
	few := []byte{0, 1, 2, 3, 4, 8, 97, 255}
	all, last := []string{}, []string{""}
	for range 5 {
		var next []string
		for _, s := range last {
			for _, c := range few {
				next = append(next, s+string([]byte{c}))
			}
		}
		all, last = append(all, next...), next
	}
	r := draws()
	for range 20000 {
		all = append(all, string([]byte{byte(r.Intn(6))})+drawText(r, r.Intn(14)))
	}
	read := 0
	for _, s := range all {
		v, rest, e := value.Read(s)
		if e != api.OK {
			checkReadFault(t, s, e)
			continue
		}
		read++
		if b, e := value.Bytes(v); b+rest != s || e != api.OK {
			t.Errorf("Read(%x) is %v with %x left, which is written %x, %v", s, v, rest, b, e)
		}
	}
	if read < 1000 {
		t.Errorf("only %d were values", read)
	}
}

// The order is that of the words, and that of the bytes: and so it is a total one.
func TestOrder(t *testing.T) { // P3.1, P3.3
	l := values()
	written := make([]string, len(l))
	for i, v := range l {
		written[i], _ = value.Bytes(v)
	}
	for i, a := range l {
		for j, b := range l {
			c, e := value.Cmp(a, b)
			if c != cmpWords(a, b) || e != api.OK {
				t.Fatalf("Cmp(%v, %v): %d, %v; wanted %d", a, b, c, e, cmpWords(a, b))
			}
			if c != strings.Compare(written[i], written[j]) {
				t.Fatalf("Cmp(%v, %v) is %d, their bytes are %x, %x", a, b, c, written[i], written[j])
			}
		}
	}
}

func TestOrderIsTotal(t *testing.T) { // P3.3
	all, r := values(), draws()
	for range 100000 {
		a, b, c := all[r.Intn(len(all))], all[r.Intn(len(all))], all[r.Intn(len(all))]
		ab, _ := value.Cmp(a, b)
		ba, _ := value.Cmp(b, a)
		bc, _ := value.Cmp(b, c)
		ac, _ := value.Cmp(a, c)
		switch {
		case ab != -ba || (ab == 0) != (a == b):
			t.Fatalf("%v, %v: %d one way, %d the other", a, b, ab, ba)
		case ab <= 0 && bc <= 0 && ac > 0:
			t.Fatalf("%v, %v, %v rise, but the last one is below the first", a, b, c)
		}
	}
}

func TestSortExamples(t *testing.T) { // P3.2
	longest := text(strings.Repeat("b", api.MaxText))
	for _, c := range []struct{ l, want []api.Value }{
		{nil, nil},
		{[]api.Value{}, nil},
		{[]api.Value{number(7)}, []api.Value{number(7)}},
		{[]api.Value{node(1), node(1)}, []api.Value{node(1)}},
		{[]api.Value{text(""), text("")}, []api.Value{text("")}},
		{[]api.Value{truth(true), truth(false), truth(true)}, []api.Value{truth(false), truth(true)}},
		{[]api.Value{node(2), text("z"), number(-5), truth(true), node(1), text("ab"), text("b"), number(3), truth(true), number(-5)},
			[]api.Value{truth(true), number(-5), number(3), text("ab"), text("b"), text("z"), node(1), node(2)}},
		{[]api.Value{longest, text("c"), longest, text("a")}, []api.Value{text("a"), longest, text("c")}},
	} {
		if got, e := value.Sort(c.l...); !slices.Equal(got, c.want) || e != api.OK {
			t.Errorf("Sort(%v): %v, %v; wanted %v", c.l, got, e, c.want)
		}
	}
	if got, e := value.Sort(); len(got) != 0 || e != api.OK {
		t.Errorf("Sort of nothing: %v, %v", got, e)
	}
}

func TestSort(t *testing.T) { // P3.2, P3.3
	all, r := values(), draws()
	for n := range 100 {
		var l []api.Value
		for range n {
			l = append(l, all[r.Intn(1+n+r.Intn(len(all)-n))])
		}
		seen := map[api.Value]bool{}
		for _, v := range l {
			seen[v] = true
		}
		got, e := value.Sort(l...)
		if e != api.OK || len(got) != len(seen) {
			t.Fatalf("Sort(%v): %v, %v", l, got, e)
		}
		for i, v := range got {
			if !seen[v] || i > 0 && cmpWords(got[i-1], v) >= 0 {
				t.Fatalf("Sort(%v): %v", l, got)
			}
		}
	}
}

// What is handed in stays as it is, spare room too, and what was answered is nobody else's.
func TestSortTakesNewMemory(t *testing.T) { // P0.1
	l := []api.Value{node(3), text("b"), node(3), number(1), truth(true), text("spare")}
	was := slices.Clone(l)
	got, _ := value.Sort(l[:5]...)
	if !slices.Equal(l, was) {
		t.Errorf("Sort has changed what it was given: %v", l)
	}
	for i := range got[:cap(got)] {
		got[:cap(got)][i] = node(9)
	}
	if !slices.Equal(l, was) {
		t.Errorf("what Sort answers shares memory with what it was given: %v", l)
	}
	rising := []api.Value{number(1), number(2)}
	got, _ = value.Sort(rising...)
	got[0] = node(9)
	if rising[0] != number(1) {
		t.Errorf("of what rises already, Sort answers the same memory")
	}
}
