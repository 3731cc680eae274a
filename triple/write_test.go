package triple_test

import (
	"bytes"
	"encoding/binary"
	"fmt"
	"math/rand"
	"regexp"
	"strings"
	"testing"

	"tessera/api"
	"tessera/triple"
	"tessera/value"
)

// numWords, bytesWords and lineWords are the chapter's words, written another way than in the package.
func numWords(x uint64) string {
	short := bytes.TrimLeft(binary.BigEndian.AppendUint64(nil, x), "\x00")
	return string([]byte{byte(len(short))}) + string(short)
}

func bytesWords(w api.Write) string {
	out := "\x00"
	if w.Del {
		out = "\x01"
	}
	val, _ := value.Bytes(w.T.Val)
	return out + numWords(w.T.Uid) + numWords(uint64(len(w.T.Pred))) + w.T.Pred + val
}

func lineWords(w api.Write) string {
	val, _ := value.Text(w.T.Val)
	return fmt.Sprintf("%c %#x %s %s", map[bool]rune{false: '+', true: '-'}[w.Del], w.T.Uid, w.T.Pred, val)
}

func TestBytesExamples(t *testing.T) { // P4.1
	for _, c := range []struct {
		w    api.Write
		want string
	}{
		{put(1, "name", text("x")), "\x00\x01\x01\x01\x04name\x03x\x00\x01"},
		{take(1, "name", text("x")), "\x01\x01\x01\x01\x04name\x03x\x00\x01"},
		{put(300, "a", truth(true)), "\x00\x02\x01\x2c\x01\x01a\x01\x01"},
		{take(300, "a", node(1)), "\x01\x02\x01\x2c\x01\x01a\x04\x01\x01"},
		{put(1<<64-1, "a", number(-1)), "\x00\x08\xff\xff\xff\xff\xff\xff\xff\xff\x01\x01a\x02\x7f\xff\xff\xff\xff\xff\xff\xff"},
		{put(1, strings.Repeat("a", api.MaxPred), truth(false)), "\x00\x01\x01\x01\x40" + strings.Repeat("a", api.MaxPred) + "\x01\x00"},
	} {
		if got, e := triple.Bytes(c.w); got != c.want || e != api.OK {
			t.Errorf("Bytes(%v): %x, %v; wanted %x", c.w, got, e, c.want)
		}
	}
}

// What is written is read, whatever stands behind it; what ends early is short, wherever it ends.
func TestBytesThereAndBack(t *testing.T) { // P4.1, P4.4
	for _, w := range someWrites() {
		b, e := triple.Bytes(w)
		if b != bytesWords(w) || e != api.OK {
			t.Fatalf("Bytes(%.80v): %x, %v; wanted %x", w, b, e, bytesWords(w))
		}
		for _, rest := range []string{"", "\x00", "\x01", "\xff", "\x00\x01", b, "any bytes"} {
			if got, left, e := triple.Read(b + rest); got != w || left != rest || e != api.OK {
				t.Fatalf("Read(%.80x): %.80v, %x, %v; wanted %.80v", b+rest, got, left, e, w)
			}
		}
		for cut := range min(len(b), 100) {
			checkReadFault(t, b[:cut], api.ErrShort)
		}
	}
}

func checkReadFault(t *testing.T, s string, want api.Errno) {
	t.Helper()
	if w, rest, e := triple.Read(s); w != (api.Write{}) || rest != "" || e != want {
		t.Errorf("Read(%.80x): %.80v, %.80x, %v; wanted %v", s, w, rest, e, want)
	}
}

func TestReadFaults(t *testing.T) { // P4.1
	const mark, uid, pred, val = "\x00", "\x01\x01", "\x01\x04name", "\x03x\x00\x01"
	for _, c := range []struct {
		s string
		e api.Errno
	}{
		{"", api.ErrShort},
		{"\x02", api.ErrForm},
		{"\x02" + uid + pred + val, api.ErrForm},
		{"+" + uid + pred + val, api.ErrForm},
		{"\xff" + uid + pred + val, api.ErrForm},
		{"\x00", api.ErrShort},
		{"\x01", api.ErrShort},
		{mark + "\x09", api.ErrForm}, // the uid
		{mark + "\x09" + pred + val, api.ErrForm},
		{mark + "\x01", api.ErrShort},
		{mark + "\x02\x01", api.ErrShort},
		{mark + "\x01\x00" + pred + val, api.ErrForm},
		{mark + "\x02\x00\x01" + pred + val, api.ErrForm},
		{mark + uid, api.ErrShort}, // the predicate
		{mark + uid + "\x09name" + val, api.ErrForm},
		{mark + uid + "\x01\x00name" + val, api.ErrForm},
		{mark + uid + "\x01\x05name", api.ErrShort},
		{mark + uid + "\x08\xff\xff\xff\xff\xff\xff\xff\xffname" + val, api.ErrShort},
		{mark + uid + pred, api.ErrShort}, // the value
		{mark + uid + pred + "\x00", api.ErrValue},
		{mark + uid + pred + "\x05", api.ErrValue},
		{mark + uid + pred + "\x09more", api.ErrValue},
		{mark + uid + pred + "\x01", api.ErrShort},
		{mark + uid + pred + "\x01\x02", api.ErrForm},
		{mark + uid + pred + "\x02\x80\x00\x00\x00\x00\x00\x00", api.ErrShort},
		{mark + uid + pred + "\x03x\x00", api.ErrShort},
		{mark + uid + pred + "\x03x\x00\x02", api.ErrForm},
		{mark + uid + pred + "\x03" + strings.Repeat("x", api.MaxText+1) + "\x00\x01", api.ErrValue},
		{mark + uid + pred + "\x04\x00", api.ErrValue},
		{mark + uid + pred + "\x04\x09", api.ErrForm},
		{mark + "\x00" + pred + val, api.ErrTriple}, // what may not be
		{mark + "\x00" + pred + val + "more", api.ErrTriple},
		{mark + uid + "\x00" + val, api.ErrPred},
		{mark + uid + "\x01\x04Name" + val, api.ErrPred},
		{mark + uid + "\x01\x05name " + val, api.ErrPred},
		{mark + uid + "\x01\x41" + strings.Repeat("a", api.MaxPred+1) + val, api.ErrPred},
		{mark + uid + "\x02\x20\x00" + strings.Repeat("a", 1<<13) + val, api.ErrPred},
	} {
		checkReadFault(t, c.s, c.e)
	}
	longest := mark + uid + "\x01\x40" + strings.Repeat("a", api.MaxPred) + "\x03" + strings.Repeat("x", api.MaxText) + "\x00\x01"
	if w, rest, e := triple.Read(longest + "\x02"); w != put(1, strings.Repeat("a", api.MaxPred), text(strings.Repeat("x", api.MaxText))) || rest != "\x02" || e != api.OK {
		t.Errorf("the longest name and text: %x left, %v", rest, e)
	}
}

// The parts are read in their order, and what may not be is told behind all of that.
func TestReadFaultsFirst(t *testing.T) { // P4.1
	const noUid, noName = "\x00", "\x01\x04Name"
	for _, c := range []struct {
		s string
		e api.Errno
	}{
		{"\x02\x09", api.ErrForm},
		{"\x00\x01", api.ErrShort}, // the uid ends ahead of a name that is none
		{"\x00\x09" + noName, api.ErrForm},
		{"\x00" + noUid, api.ErrShort}, // no predicate is named ahead of the uid 0
		{"\x00" + noUid + "\x09", api.ErrForm},
		{"\x00" + noUid + noName, api.ErrShort}, // no value, ahead of the uid 0 and the name
		{"\x00" + noUid + noName + "\x01\x02", api.ErrForm},
		{"\x00" + noUid + noName + "\x04\x00", api.ErrValue}, // layer 3's ahead of May's
		{"\x00" + noUid + "\x01\x04name\x04\x00", api.ErrValue},
		{"\x00\x01\x01" + noName + "\x09", api.ErrValue},
		{"\x00" + noUid + noName + "\x01\x00", api.ErrTriple}, // of May's the uid's first
		{"\x01" + noUid + noName + "\x01\x00", api.ErrTriple},
		{"\x01\x01\x01" + noName + "\x01\x00\xff", api.ErrPred},
		{"\x01\x01\x01\x00\x03" + strings.Repeat("x", 9000), api.ErrShort},
		{"\x01\x01\x01\x00\x03" + strings.Repeat("x", 9000) + "\x00\x01", api.ErrValue},
	} {
		checkReadFault(t, c.s, c.e)
	}
}

// Whatever bytes are read without a fault are those that the write is written as.
func TestBytesHaveOneForm(t *testing.T) { // P4.4
	few := []string{"", "\x00", "\x01", "\x02", "\x04", "\x09", "a", "\xff", "\x01\x01", "\x01\x01a", "\x00\x01", "\x01\x02ab", "\x03x\x00\x01"}
	all := []string{""}
	for range 5 {
		var next []string
		for _, s := range all {
			for _, c := range few {
				next = append(next, s+c)
			}
		}
		all = next
	}
	r := draws()
	for _, w := range someWrites() {
		b := []byte(bytesWords(w))
		b[r.Intn(min(len(b), 90))] = byte(r.Intn(256))
		all = append(all, string(b))
	}
	read := 0
	for _, s := range all {
		w, rest, e := triple.Read(s)
		if e != api.OK {
			checkReadFault(t, s, e)
			continue
		}
		read++
		if b, e := triple.Bytes(w); b+rest != s || e != api.OK {
			t.Fatalf("Read(%.80x) is %.80v with %x left, which is written %.80x, %v", s, w, rest, b, e)
		}
	}
	if read < 1000 {
		t.Errorf("only %d were writes", read)
	}
}

// Of a triple that may not be there are no bytes and no line, whether it is put or taken away.
func TestWrongWrites(t *testing.T) { // P4.1
	for _, c := range wrong() {
		for _, del := range []bool{false, true} {
			w := api.Write{Del: del, T: c.t}
			if s, e := triple.Bytes(w); s != "" || e != c.e {
				t.Errorf("Bytes(%.80v): %.80x, %v; wanted %v", w, s, e, c.e)
			}
			if s, e := triple.Text(w); s != "" || e != c.e {
				t.Errorf("Text(%.80v): %.80q, %v; wanted %v", w, s, e, c.e)
			}
		}
	}
}

func TestTextExamples(t *testing.T) { // P4.1
	for _, c := range []struct {
		w    api.Write
		want string
	}{
		{put(1, "name", text("x")), `+ 0x1 name "x"`},
		{take(1, "name", text("x")), `- 0x1 name "x"`},
		{put(255, "a.b_1", truth(true)), `+ 0xff a.b_1 true`},
		{take(16, "a", number(-5)), `- 0x10 a -5`},
		{put(1<<64-1, "friend", node(2)), `+ 0xffffffffffffffff friend 0x2`},
		{put(1, "name", text("")), `+ 0x1 name ""`},
		{put(1, "name", text("a b  c ")), `+ 0x1 name "a b  c "`},
		{put(1, "name", text("\"\n")), `+ 0x1 name "\"\n"`},
		{put(1, "name", text(` + 0x1 name "x"`)), `+ 0x1 name " + 0x1 name \"x\""`},
		{put(1, "true", number(0)), `+ 0x1 true 0`},
	} {
		if got, e := triple.Text(c.w); got != c.want || e != api.OK {
			t.Errorf("Text(%v): %s, %v; wanted %s", c.w, got, e, c.want)
		}
		if got, e := triple.ReadText(c.want); got != c.w || e != api.OK {
			t.Errorf("ReadText(%s): %v, %v; wanted %v", c.want, got, e, c.w)
		}
	}
}

func TestTextThereAndBack(t *testing.T) { // P4.1, P4.4
	for _, w := range someWrites() {
		s, e := triple.Text(w)
		if s != lineWords(w) || e != api.OK {
			t.Fatalf("Text(%.80v): %.80s, %v; wanted %.80s", w, s, e, lineWords(w))
		}
		if got, e := triple.ReadText(s); got != w || e != api.OK {
			t.Fatalf("ReadText(%.80s): %.80v, %v; wanted %.80v", s, got, e, w)
		}
	}
}

func checkNoLine(t *testing.T, s string) {
	t.Helper()
	if w, e := triple.ReadText(s); w != (api.Write{}) || e != api.ErrTriple {
		t.Errorf("ReadText(%.80q): %.80v, %v; wanted ErrTriple", s, w, e)
	}
}

func TestReadTextFaults(t *testing.T) { // P4.1
	for _, s := range []string{
		"", " ", "   ", "    ", "+", "-", "+ ", "+ 0x1", "+ 0x1 ", "+ 0x1 name", "+ 0x1 name ", "0x1 name 1", " 0x1 name 1", "\n",
		"* 0x1 name 1", "++ 0x1 name 1", "+- 0x1 name 1", "0 0x1 name 1", "\x00 0x1 name 1", "put 0x1 name 1", "\xe2\x88\x92 0x1 name 1", // another sign
		"+0x1 name 1", "+ 0x1name 1", "+ 0x1 name1", "+0x1name1", "+ 0x1 name\"x\"", // no blank
		"+  0x1 name 1", "+ 0x1  name 1", "+ 0x1 name  1", " + 0x1 name 1", "+ 0x1 name 1 ", "+ 0x1 name \"x\" ", "+ 0x1 name 1\n", "+ 0x1 name  \"x\"", // a blank more
		"+\t0x1 name 1", "+ 0x1\tname 1", "+ 0x1 name\t1", "+ 0x1\nname 1", "+\u00a00x1 name 1", "+\x000x1 name 1", // no blank at all
		"+ 0x0 name 1", "+ 0x01 name 1", "+ 0x00 name 1", "+ 0x name 1", "+ 1 name 1", "+ -1 name 1", "+ 0xFF name 1", "+ 0Xff name 1", "+ 0xg name 1", "+ true name 1", "+ \"x\" name 1", "+ \"0x1\" name 1", "+ 0x10000000000000000 name 1", // no uid
		"+ 0x1 Name 1", "+ 0x1 1a 1", "+ 0x1 _a 1", "+ 0x1 .a 1", "+ 0x1 a-b 1", "+ 0x1 \"name\" 1", "+ 0x1 " + strings.Repeat("a", api.MaxPred+1) + " 1", // no name
		"+ 0x1 name x", "+ 0x1 name 01", "+ 0x1 name -0", "+ 0x1 name +1", "+ 0x1 name 0x0", "+ 0x1 name 0x01", "+ 0x1 name 0xFF", "+ 0x1 name True", "+ 0x1 name \"x", "+ 0x1 name x\"", "+ 0x1 name \"\\x41\"", "+ 0x1 name 'x'", "+ 0x1 name 1 2", "+ 0x1 name \"x\" \"y\"", "+ 0x1 name 9223372036854775808", // no literal
		"+ 0x1 name \"" + strings.Repeat("x", api.MaxText+1) + "\"", "+ 0x1 a b 1", "+ 0x1 0x2 name 1", "+ + 0x1 name 1",
		strings.Repeat(" ", 1<<20), strings.Repeat("+ ", 1<<19), "+ 0x1 name " + strings.Repeat("1", 1<<20), "+ 0x1 " + strings.Repeat("a", 1<<20) + " 1",
	} {
		checkNoLine(t, s)
	}
}

// lineForm is the form of lines, as a grammar; that numbers and lengths are in their bounds is layer 3's thing.
func lineForm() *regexp.Regexp {
	return regexp.MustCompile(`^[+-] (0x[1-9a-f][0-9a-f]*) [a-z][a-z0-9_.]{0,63} ((?s:.+))$`)
}

func checkLine(t *testing.T, form *regexp.Regexp, s string) bool {
	t.Helper()
	m := form.FindStringSubmatch(s)
	if m == nil {
		checkNoLine(t, s)
		return false
	}
	for _, literal := range m[1:] {
		if _, e := value.ReadText(literal); e != api.OK {
			checkNoLine(t, s)
			return false
		}
	}
	w, e := triple.ReadText(s)
	if e != api.OK || triple.May(w.T) != api.OK || lineWords(w) != s {
		t.Errorf("ReadText(%.80q): %.80v, %v", s, w, e)
	}
	return true
}

// changed is s with one byte gone, another one, one more, twice, or without its end.
func changed(r *rand.Rand, s string) string {
	at := r.Intn(min(len(s), 90))
	return []string{s[:at] + s[at+1:], s[:at] + drawText(r, 1) + s[at+1:], s[:at] + drawText(r, 1) + s[at:], s[:at+1] + s[at:], s[:at]}[r.Intn(5)]
}

// Lines, and texts that are nearly one, are lines just where the grammar says so.
func TestReadTextAsGrammar(t *testing.T) { // P4.1, P4.4
	form, r, lines := lineForm(), draws(), 0
	for range 40000 {
		v := values()[r.Intn(len(values()))]
		if len(v.S) > 100 {
			v.S = v.S[:r.Intn(5)]
		}
		s := lineWords(api.Write{Del: r.Intn(2) == 0, T: said(uids()[r.Intn(len(uids()))], drawName(r), v)})
		if !checkLine(t, form, s) {
			t.Fatalf("%q is a line", s)
		}
		if checkLine(t, form, changed(r, s)) {
			lines++
		}
	}
	if lines < 1000 {
		t.Errorf("only %d that were changed are lines", lines)
	}
	for _, a := range []string{"", "+", "-", "0"} {
		for _, b := range []string{"", "0x1", "0x0", "1", " "} {
			for _, c := range []string{"", "a", "A", "a b", " "} {
				for _, d := range []string{"", "1", "01", "\" \"", "0x2", " 1"} {
					checkLine(t, form, strings.Join([]string{a, b, c, d}, " "))
				}
			}
		}
	}
}
