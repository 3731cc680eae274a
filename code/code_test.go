package code_test

import (
	"encoding/binary"
	"hash/crc32"
	"math"
	"math/rand"
	"slices"
	"strings"
	"testing"

	"tessera/api"
	"tessera/code"
)

// draws is the same row of numbers in every run, so that a failure comes back.
func draws() *rand.Rand { return rand.New(rand.NewSource(2)) }

// drawText draws bytes of which many are those that keys take note of.
func drawText(r *rand.Rand, n int) string {
	b := make([]byte, n)
	for i := range b {
		b[i] = byte(r.Intn(256))
		if r.Intn(2) == 0 {
			b[i] = []byte{0, 1, 2, 254, 255}[r.Intn(5)]
		}
	}
	return string(b)
}

// numbers are those at which the count of bytes changes, with their neighbours, and drawn ones of all lengths.
func numbers() []uint64 {
	out := []uint64{0, math.MaxUint64}
	for i := range 64 {
		out = append(out, 1<<i-1, 1<<i, 1<<i+1)
	}
	r := draws()
	for i := range 400 {
		out = append(out, r.Uint64()>>(i%64))
	}
	return out
}

func signed() []int64 {
	out := []int64{0, 1, -1, math.MinInt64, math.MinInt64 + 1, math.MaxInt64, math.MaxInt64 - 1}
	for _, x := range numbers() {
		out = append(out, int64(x), -int64(x))
	}
	return out
}

func texts() []string {
	out := []string{"", "a", "ab", "b", "a\x00b", "\x00", "\x00\x00", "\xff", "\xff\xff", "\x00\xff", "\x00\x01", "\x01", "\x01\x00", "a\x00", "a\x00\x01", "a\x00\xff", "a\x01", "\u00e4\u20ac", "\xc3\x28"}
	for i := range 256 {
		out = append(out, string([]byte{byte(i)}))
	}
	r := draws()
	for n := range 300 {
		out = append(out, drawText(r, n), drawText(r, r.Intn(5)))
	}
	return append(out, strings.Repeat("\x00", 1000), strings.Repeat("\xff", 65536))
}

// rests are what may stand behind what is read.
func rests() []string {
	return []string{"", "\x00", "\x01", "\xff", "\x00\x01", "\x00\xff", "\x08", "any bytes behind", strings.Repeat("\x00", 40)}
}

// numWords, keyWords and frameWords are the chapter's words, written another way than in the package.
func numWords(x uint64) string {
	all := string(binary.BigEndian.AppendUint64(nil, x))
	short := strings.TrimLeft(all, "\x00")
	return string([]byte{byte(len(short))}) + short
}

func keyWords(s string) string { return strings.ReplaceAll(s, "\x00", "\x00\xff") + "\x00\x01" }

func frameWords(s string) string {
	head := binary.BigEndian.AppendUint32(nil, uint32(len(s)))
	sum := crc32.ChecksumIEEE([]byte(string(head) + s))
	return string(binary.BigEndian.AppendUint32(head, sum)) + s
}

func frame(t *testing.T, s string) string {
	t.Helper()
	f, e := code.Frame(s)
	if e != api.OK {
		t.Fatalf("Frame of %d bytes: %v", len(s), e)
	}
	return f
}

func TestWritesExamples(t *testing.T) { // P2.1
	for _, c := range []struct{ name, got, want string }{
		{"Num(0)", code.Num(0), "\x00"},
		{"Num(1)", code.Num(1), "\x01\x01"},
		{"Num(255)", code.Num(255), "\x01\xff"},
		{"Num(256)", code.Num(256), "\x02\x01\x00"},
		{"Num(65536)", code.Num(65536), "\x03\x01\x00\x00"},
		{"Num of the greatest", code.Num(math.MaxUint64), "\x08\xff\xff\xff\xff\xff\xff\xff\xff"},
		{"Int(0)", code.Int(0), "\x80\x00\x00\x00\x00\x00\x00\x00"},
		{"Int(1)", code.Int(1), "\x80\x00\x00\x00\x00\x00\x00\x01"},
		{"Int(-1)", code.Int(-1), "\x7f\xff\xff\xff\xff\xff\xff\xff"},
		{"Int of the least", code.Int(math.MinInt64), "\x00\x00\x00\x00\x00\x00\x00\x00"},
		{"Int of the greatest", code.Int(math.MaxInt64), "\xff\xff\xff\xff\xff\xff\xff\xff"},
		{"Text of nothing", code.Text(""), "\x00"},
		{"Text(ab)", code.Text("ab"), "\x01\x02ab"},
		{"Text of 0 and 255", code.Text("\x00\xff"), "\x01\x02\x00\xff"},
		{"Text of 256 bytes", code.Text(strings.Repeat("x", 256)), "\x02\x01\x00" + strings.Repeat("x", 256)},
		{"Key of nothing", code.Key(""), "\x00\x01"},
		{"Key of a, 0, b", code.Key("a\x00b"), "a\x00\xffb\x00\x01"},
		{"Key of 0 and 255", code.Key("\x00\xff"), "\x00\xff\xff\x00\x01"},
		{"Key of 0 and 1", code.Key("\x00\x01"), "\x00\xff\x01\x00\x01"},
		{"Frame of nothing", frame(t, ""), "\x00\x00\x00\x00\x21\x44\xdf\x1c"},
		{"Frame(a)", frame(t, "a"), frameWords("a")},
	} {
		if c.got != c.want {
			t.Errorf("%s is %x, wanted %x", c.name, c.got, c.want)
		}
	}
}

func TestWritesAsTheWordsSay(t *testing.T) { // P2.1
	for _, x := range numbers() {
		if got, want := code.Num(x), numWords(x); got != want {
			t.Errorf("Num(%d) is %x, wanted %x", x, got, want)
		}
	}
	for _, x := range signed() {
		want := string(binary.BigEndian.AppendUint64(nil, uint64(x)^1<<63))
		if got := code.Int(x); got != want {
			t.Errorf("Int(%d) is %x, wanted %x", x, got, want)
		}
	}
	for _, s := range texts() {
		if got, want := code.Text(s), numWords(uint64(len(s)))+s; got != want {
			t.Errorf("Text(%x) is %x, wanted %x", s, got, want)
		}
		if got, want := code.Key(s), keyWords(s); got != want {
			t.Errorf("Key(%x) is %x, wanted %x", s, got, want)
		}
		if got, want := frame(t, s), frameWords(s); got != want {
			t.Errorf("Frame(%x) is %x, wanted %x", s, got, want)
		}
	}
}

func TestFrameHasABound(t *testing.T) { // P2.1, P2.2
	most := strings.Repeat("\xa5", api.MaxFrame)
	f := frame(t, most)
	if f != frameWords(most) {
		t.Error("the frame of MaxFrame bytes is another one than the words say")
	}
	if got, rest, e := code.ReadFrame(f + "z"); got != most || rest != "z" || e != api.OK {
		t.Errorf("ReadFrame of MaxFrame bytes: %d bytes, rest %q, %v", len(got), rest, e)
	}
	if l, used, e := code.Frames(f); len(l) != 1 || l[0] != most || used != len(f) || e != api.OK {
		t.Errorf("Frames of MaxFrame bytes: %d frames, %d, %v", len(l), used, e)
	}
	if got, e := code.Frame(most + "z"); got != "" || e != api.ErrLong {
		t.Errorf("Frame of MaxFrame+1 bytes: %d bytes, %v", len(got), e)
	}
	over := frameWords(most + "z")
	if got, rest, e := code.ReadFrame(over); got != "" || rest != "" || e != api.ErrLong {
		t.Errorf("ReadFrame of MaxFrame+1 bytes: %d bytes, %d left, %v", len(got), len(rest), e)
	}
}

// read is one call's answer, with what was read as it would be written.
type read struct {
	again, rest string
	e           api.Errno
}

func checkRead(t *testing.T, call, s string, got, want read) {
	t.Helper()
	if got != want {
		t.Errorf("%s(%x): %x with %x left, %v; wanted %x with %x left, %v", call, s, got.again, got.rest, got.e, want.again, want.rest, want.e)
	}
}

// readers are the calls that read one thing; each writes what it read.
func readers() []struct {
	name string
	call func(string) read
} {
	return []struct {
		name string
		call func(string) read
	}{
		{"ReadNum", func(s string) read { x, rest, e := code.ReadNum(s); return read{code.Num(x), rest, e} }},
		{"ReadInt", func(s string) read { x, rest, e := code.ReadInt(s); return read{code.Int(x), rest, e} }},
		{"ReadText", func(s string) read { x, rest, e := code.ReadText(s); return read{code.Text(x), rest, e} }},
		{"ReadKey", func(s string) read { x, rest, e := code.ReadKey(s); return read{code.Key(x), rest, e} }},
		{"ReadFrame", func(s string) read {
			x, rest, e := code.ReadFrame(s)
			again, _ := code.Frame(x)
			return read{again, rest, e}
		}},
	}
}

// fault is the answer beside an error: what was read, and the rest, are zero values.
func fault(name string, e api.Errno) read {
	switch name {
	case "ReadNum":
		return read{code.Num(0), "", e}
	case "ReadInt":
		return read{code.Int(0), "", e}
	case "ReadText":
		return read{code.Text(""), "", e}
	case "ReadKey":
		return read{code.Key(""), "", e}
	}
	f, _ := code.Frame("")
	return read{f, "", e}
}

func TestReadsFaults(t *testing.T) { // P2.2
	long := "\x01\x00\x00\x01" // MaxFrame + 1
	for _, c := range []struct {
		call, s string
		e       api.Errno
	}{
		{"ReadNum", "", api.ErrShort},
		{"ReadNum", "\x09", api.ErrForm}, // no matter that nothing follows
		{"ReadNum", "\x09123456789", api.ErrForm},
		{"ReadNum", "\xff", api.ErrForm},
		{"ReadNum", "\x01", api.ErrShort},
		{"ReadNum", "\x02\x01", api.ErrShort},
		{"ReadNum", "\x02\x00", api.ErrShort}, // too few is named ahead of the first one's 0
		{"ReadNum", "\x08\x01\x02\x03\x04\x05\x06\x07", api.ErrShort},
		{"ReadNum", "\x01\x00", api.ErrForm},
		{"ReadNum", "\x02\x00\x01", api.ErrForm},
		{"ReadNum", "\x08\x00\xff\xff\xff\xff\xff\xff\xff", api.ErrForm},
		{"ReadInt", "", api.ErrShort},
		{"ReadInt", "\x80", api.ErrShort},
		{"ReadInt", "\x80\x00\x00\x00\x00\x00\x00", api.ErrShort},
		{"ReadText", "", api.ErrShort},
		{"ReadText", "\x09abc", api.ErrForm},
		{"ReadText", "\x02\x01", api.ErrShort},
		{"ReadText", "\x01\x00", api.ErrForm},
		{"ReadText", "\x01\x01", api.ErrShort},
		{"ReadText", "\x01\x03ab", api.ErrShort},
		{"ReadText", "\x08\xff\xff\xff\xff\xff\xff\xff\xffabc", api.ErrShort},
		{"ReadText", "\x08\x80\x00\x00\x00\x00\x00\x00\x00abc", api.ErrShort},
		{"ReadText", "\x08\x7f\xff\xff\xff\xff\xff\xff\xffabc", api.ErrShort},
		{"ReadKey", "", api.ErrShort},
		{"ReadKey", "a", api.ErrShort},
		{"ReadKey", "a\x00", api.ErrShort},
		{"ReadKey", "\x00", api.ErrShort},
		{"ReadKey", "\x00\xff", api.ErrShort},
		{"ReadKey", "\x00\xff\x00", api.ErrShort},
		{"ReadKey", "\x00\xff\x01", api.ErrShort},
		{"ReadKey", "a\x00\x02", api.ErrForm},
		{"ReadKey", "a\x00\x00", api.ErrForm},
		{"ReadKey", "a\x00\xfe\x00\x01", api.ErrForm},
		{"ReadKey", "\x00\xff\x00\x61\x00\x01", api.ErrForm},
		{"ReadFrame", "", api.ErrShort},
		{"ReadFrame", "\x00\x00\x00\x00\x21\x44\xdf", api.ErrShort},
		{"ReadFrame", "\xff\xff\xff\xff\x00\x00\x00", api.ErrShort}, // no whole head: the length is not looked at
		{"ReadFrame", long + "\x00\x00\x00\x00", api.ErrLong},       // above the bound is named ahead of too few
		{"ReadFrame", "\xff\xff\xff\xff\x00\x00\x00\x00", api.ErrLong},
		{"ReadFrame", "\x01\x00\x00\x00\x00\x00\x00\x00", api.ErrShort},
		{"ReadFrame", "\x00\x00\x00\x02\x00\x00\x00\x00a", api.ErrShort}, // too few is named ahead of the sum
		{"ReadFrame", "\x00\x00\x00\x00\x21\x44\xdf\x1d", api.ErrSum},
		{"ReadFrame", "\x00\x00\x00\x00\x00\x00\x00\x00more", api.ErrSum},
		{"ReadFrame", frameWords("abc")[:8] + "abd", api.ErrSum},
	} {
		for _, r := range readers() {
			if r.name == c.call {
				checkRead(t, r.name, c.s, r.call(c.s), fault(r.name, c.e))
			}
		}
	}
}

// Each byte of a frame counts: whichever is another one, the frame is not read as it was.
func TestEachByteOfAFrameCounts(t *testing.T) { // P2.2
	f := frameWords("some bytes\x00\xff")
	for i := range len(f) {
		for x := 1; x < 256; x++ {
			b := []byte(f)
			b[i] ^= byte(x)
			want := []api.Errno{api.ErrSum}
			if i < 4 {
				want = []api.Errno{api.ErrSum, api.ErrShort, api.ErrLong}
			}
			if s, rest, e := code.ReadFrame(string(b)); s != "" || rest != "" || !slices.Contains(want, e) {
				t.Fatalf("byte %d turned by %x: %q, %q, %v", i, x, s, rest, e)
			}
		}
	}
}

// What ends early is short, wherever it ends, or no form at all; what is whole is read whatever stands behind it.
func TestWrittenIsRead(t *testing.T) { // P2.2, P2.4
	written := make([][]string, 5)
	for _, x := range numbers() {
		written[0] = append(written[0], numWords(x))
	}
	for _, x := range signed() {
		written[1] = append(written[1], code.Int(x))
	}
	for _, s := range texts() {
		written[2] = append(written[2], numWords(uint64(len(s)))+s)
		written[3] = append(written[3], keyWords(s))
		written[4] = append(written[4], frameWords(s))
	}
	for i, r := range readers() {
		for _, w := range written[i] {
			for _, rest := range rests() {
				checkRead(t, r.name, w+rest, r.call(w+rest), read{w, rest, api.OK})
			}
			for cut := range min(len(w), 100) {
				checkRead(t, r.name, w[:cut], r.call(w[:cut]), fault(r.name, api.ErrShort))
			}
		}
	}
}

func TestReadsWhatItWas(t *testing.T) { // P2.2, P2.4
	for _, x := range numbers() {
		if got, rest, e := code.ReadNum(code.Num(x) + "rest"); got != x || rest != "rest" || e != api.OK {
			t.Errorf("ReadNum(Num(%d)): %d, %q, %v", x, got, rest, e)
		}
	}
	for _, x := range signed() {
		if got, rest, e := code.ReadInt(code.Int(x) + "rest"); got != x || rest != "rest" || e != api.OK {
			t.Errorf("ReadInt(Int(%d)): %d, %q, %v", x, got, rest, e)
		}
	}
	for _, s := range texts() {
		for i, got := range [][2]string{pair(code.ReadText(code.Text(s) + "\x00\x01")), pair(code.ReadKey(code.Key(s) + "\x00\x01")), pair(code.ReadFrame(frame(t, s) + "\x00\x01"))} {
			if got != [2]string{s, "\x00\x01"} {
				t.Errorf("%x is read as %x (text, key, frame: %d)", s, got, i)
			}
		}
	}
	if s, rest, e := code.ReadKey("\x00\x01c"); s != "" || rest != "c" || e != api.OK {
		t.Errorf("ReadKey of 00 01 63: %q, %q, %v", s, rest, e)
	}
}

func pair(s, rest string, e api.Errno) [2]string {
	if e != api.OK {
		return [2]string{e.Error(), rest}
	}
	return [2]string{s, rest}
}

// Whatever bytes are read without a fault are those that the thing is written as: of short ones all, of longer ones drawn ones.
func TestOneForm(t *testing.T) { // P2.4
	var all []string
	few := []byte{0, 1, 2, 8, 9, 97, 255}
	last := []string{""}
	for range 5 {
		var next []string
		for _, s := range last {
			for _, c := range few {
				next = append(next, s+string([]byte{c}))
			}
		}
		all = append(all, next...)
		last = next
	}
	r := draws()
	for range 20000 {
		all = append(all, drawText(r, r.Intn(24)))
	}
	for _, reader := range readers() {
		for _, s := range all {
			if got := reader.call(s); got.e == api.OK && got.again+got.rest != s {
				t.Fatalf("%s(%x) is read, but written as %x with %x behind it", reader.name, s, got.again, got.rest)
			}
		}
	}
}

func TestBytesStandInOrder(t *testing.T) { // P2.4
	ns := numbers()
	slices.Sort(ns)
	for i := range len(ns) - 1 {
		if a, b := ns[i], ns[i+1]; a < b != (code.Num(a) < code.Num(b)) {
			t.Errorf("Num(%d) and Num(%d) are not in order", a, b)
		}
	}
	is := signed()
	slices.Sort(is)
	for i := range len(is) - 1 {
		if a, b := is[i], is[i+1]; a < b != (code.Int(a) < code.Int(b)) {
			t.Errorf("Int(%d) and Int(%d) are not in order", a, b)
		}
	}
	ts := texts()[:500]
	for _, a := range ts {
		for _, b := range ts {
			ka, kb := code.Key(a), code.Key(b)
			if strings.Compare(a, b) != strings.Compare(ka, kb) {
				t.Fatalf("Key(%x) and Key(%x) are not in order", a, b)
			}
			if a != b && strings.HasPrefix(kb, ka) {
				t.Fatalf("Key(%x) begins Key(%x)", a, b)
			}
		}
	}
}

func TestFrames(t *testing.T) { // P2.3
	a, b := frameWords("a"), frameWords("b")
	none := frameWords("")
	bad := b[:8] + "c"
	long := "\x01\x00\x00\x01\x00\x00\x00\x00"
	for _, c := range []struct {
		s    string
		l    []string
		used int
		e    api.Errno
	}{
		{"", nil, 0, api.OK},
		{a, []string{"a"}, 9, api.OK},
		{a + b, []string{"a", "b"}, 18, api.OK},
		{none + none + a, []string{"", "", "a"}, 25, api.OK},
		{a + b + "x", []string{"a", "b"}, 18, api.ErrShort},
		{a + b + "\x00\x00\x00\x00\x00\x00\x00", []string{"a", "b"}, 18, api.ErrShort},
		{a + b[:8], []string{"a"}, 9, api.ErrShort},
		{a + long + b, []string{"a"}, 9, api.ErrLong},
		{a + bad + b, []string{"a"}, 9, api.ErrSum},
		{bad + a, nil, 0, api.ErrSum},
		{long, nil, 0, api.ErrLong},
		{"x", nil, 0, api.ErrShort},
	} {
		if l, used, e := code.Frames(c.s); !slices.Equal(l, c.l) || used != c.used || e != c.e {
			t.Errorf("Frames(%x): %q, %d, %v; wanted %q, %d, %v", c.s, l, used, e, c.l, c.used, c.e)
		}
	}
}

// Frames tells what ReadFrame tells, one by one, wherever the bytes end.
func TestFramesAsReadFrame(t *testing.T) { // P2.3, P2.4
	r := draws()
	var all string
	for range 12 {
		all += frameWords(drawText(r, r.Intn(9)))
	}
	for cut := range len(all) + 1 {
		var want []string
		s, fault := all[:cut], api.OK
		for s != "" && fault == api.OK {
			var one, rest string
			if one, rest, fault = code.ReadFrame(s); fault == api.OK {
				want, s = append(want, one), rest
			}
		}
		if l, used, e := code.Frames(all[:cut]); !slices.Equal(l, want) || used != cut-len(s) || e != fault {
			t.Errorf("the first %d bytes: %q, %d, %v; wanted %q, %d, %v", cut, l, used, e, want, cut-len(s), fault)
		}
	}
}

func TestAnswersAreNewMemory(t *testing.T) { // P0.1
	s := frameWords("a") + frameWords("b")
	one, _, _ := code.Frames(s)
	_ = append(one, "z")
	one[0] = "z"
	if two, _, _ := code.Frames(s); !slices.Equal(two, []string{"a", "b"}) {
		t.Errorf("a list that was answered earlier is seen in a later one: %q", two)
	}
}

func TestNoCallPanics(t *testing.T) { // P0.1
	r := draws()
	for range 20000 {
		s := drawText(r, r.Intn(40))
		for _, reader := range readers() {
			if got := reader.call(s); got.e != api.OK && got != fault(reader.name, got.e) {
				t.Fatalf("%s(%x) answers more than its error %v", reader.name, s, got.e)
			}
		}
		if l, used, _ := code.Frames(s); used < 0 || used > len(s) || used < 8*len(l) {
			t.Fatalf("Frames(%x): %d frames in %d bytes", s, len(l), used)
		}
	}
}
