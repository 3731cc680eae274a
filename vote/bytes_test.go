package vote_test

import (
	"encoding/hex"
	"fmt"
	"strings"
	"testing"

	"tessera/api"
	"tessera/vote"
)

// read holds Read's answer to a message.
func read(t *testing.T, name, s string, want api.Msg) {
	t.Helper()
	if m, e := vote.Read(s); e != api.OK || !equalMsg(m, want) {
		t.Errorf("%s: %+v, %v", name, m, e)
	}
}

// unread holds Read's answer to ErrArg, with nothing beside it.
func unread(t *testing.T, name, s string) {
	t.Helper()
	if m, e := vote.Read(s); e != api.ErrArg || !equalMsg(m, api.Msg{}) {
		t.Errorf("%s: %+v, %v", name, m, e)
	}
}

// wordsRead reads numbers in any form, and holds what comes of it to the words: whether it is the bytes of a message.
func wordsRead(s string) (m api.Msg, ok bool) {
	defer func() {
		if recover() != nil { // the bytes ended
			m, ok = api.Msg{}, false
		}
	}()
	cut := func(n int) string {
		out := s[:n]
		s = s[n:]
		return out
	}
	number := func() (x uint64) {
		for _, b := range []byte(cut(int(cut(1)[0]))) {
			x = x<<8 | uint64(b)
		}
		return x
	}
	words := func() string { return cut(int(number())) }
	list := func() (l []int) {
		for range number() {
			l = append(l, int(number()))
		}
		return l
	}
	whole := s
	m.Kind, m.From, m.To = api.MsgKind(cut(1)[0]), int(number()), int(number())
	m.Term, m.Index, m.LogTerm, m.Commit, m.Round = number(), number(), number(), number(), number()
	m.Ok = cut(1)[0] == 1
	for range number() {
		m.Entries = append(m.Entries, api.Entry{Term: number(), Kind: api.EntryKind(cut(1)[0]), Data: words(), Members: list()})
	}
	m.Members, m.Snap = list(), words()
	if !messageMay(m) || wordsBytes(m) != whole {
		return api.Msg{}, false
	}
	return m, true
}

// P10.6: the bytes of a message of each kind, by hand.
func TestBytes(t *testing.T) {
	for name, want := range map[string]string{
		"Ask":  "01" + "0101" + "0102" + "0106" + "0107" + "0105" + "00" + "00" + "00" + "00" + "00" + "00",
		"Told": "02" + "0101" + "0102" + "0106" + "00" + "00" + "00" + "00" + "01" + "00" + "00" + "00",
		"Lay": "03" + "0101" + "0102" + "0106" + "0107" + "0103" + "0109" + "0104" + "00" +
			"0103" + "0103" + "00" + "0103780079" + "00" + "0105" + "01" + "00" + "00" + "0105" + "02" + "00" + "0103010101020140" +
			"00" + "00",
		"Heard":   "04" + "0101" + "0102" + "0106" + "0107" + "00" + "00" + "0104" + "01" + "00" + "00" + "00",
		"Install": "05" + "0101" + "0102" + "0106" + "0107" + "0105" + "00" + "0104" + "00" + "00" + "0103010101020103" + "0105736e6170ff",
	} {
		m := messages()[name]
		s, e := vote.Bytes(m)
		if got := hex.EncodeToString([]byte(s)); e != api.OK || got != want {
			t.Errorf("%s: %s, %v\n wanted %s", name, got, e, want)
		}
		read(t, name, s, m)
	}
	least := api.Msg{Kind: api.Ask, From: 64, To: 1, Term: top}
	s, e := vote.Bytes(least)
	if got := hex.EncodeToString([]byte(s)); e != api.OK || got != "01"+"0140"+"0101"+"084000000000000000"+"0000000000000000" {
		t.Errorf("an Ask of the greatest Term: %s, %v", got, e)
	}
	read(t, "an Ask of the greatest Term", s, least)
}

// P10.6, P10.8: Read of Bytes is the message.
func TestReadBytes(t *testing.T) {
	r := draws()
	for range 5000 {
		m := drawnMsg(r)
		s, e := vote.Bytes(m)
		if e != api.OK || s != wordsBytes(m) {
			t.Fatalf("Bytes of %+v: %x, %v", m, s, e)
		}
		read(t, fmt.Sprintf("%+v", m), s, m)
	}
}

// P10.6: long texts, and lists at their bounds.
func TestReadLong(t *testing.T) {
	many := []int{}
	for id := range api.MaxNodes {
		many = append(many, id+1)
	}
	l, in := lay(), install()
	l.Entries = nil
	for i := range api.MaxLay {
		l.Entries = append(l.Entries, api.Entry{Term: 3, Data: strings.Repeat("\x00\xff", i<<12)})
	}
	l.Entries[15] = api.Entry{Term: 6, Kind: api.Seats, Members: many}
	in.Members, in.Snap = many, strings.Repeat("snap", 1<<18)
	for _, m := range []api.Msg{l, in} {
		s, e := vote.Bytes(m)
		if e != api.OK || s != wordsBytes(m) {
			t.Errorf("the kind %d: %d bytes, %v", m.Kind, len(s), e)
		}
		read(t, fmt.Sprint("the kind ", m.Kind), s, m)
	}
}

// P10.6: ErrArg of a message that may not be, and of the bytes that it would have.
func TestBytesWrong(t *testing.T) {
	r := draws()
	none := 0
	for range 20000 {
		m := drawnMsg(r)
		spoil(r, &m)
		s, e := vote.Bytes(m)
		if messageMay(m) {
			if s != wordsBytes(m) || e != api.OK {
				t.Fatalf("Bytes of %+v: %x, %v", m, s, e)
			}
			continue
		}
		none++
		if s != "" || e != api.ErrArg {
			t.Fatalf("Bytes of %+v: %x, %v", m, s, e)
		}
		unread(t, fmt.Sprintf("%+v", m), wordsBytes(m))
	}
	if none < 1000 {
		t.Errorf("what is drawn tells little: %d", none)
	}
	for _, m := range []api.Msg{{}, {Kind: api.Ask}, {Kind: 6, From: 1, To: 2, Term: 1}} {
		if s, e := vote.Bytes(m); s != "" || e != api.ErrArg {
			t.Errorf("Bytes of %+v: %x, %v", m, s, e)
		}
	}
}

// P10.6: bytes cut short at each place, or with something behind them, are no message's.
func TestReadCut(t *testing.T) {
	for name, m := range messages() {
		s := wordsBytes(m)
		for n := range len(s) {
			unread(t, fmt.Sprint(name, " cut to ", n), s[:n])
		}
		for _, more := range []string{"\x00", "\x01", "\xff", s} {
			unread(t, fmt.Sprintf("%s and %x", name, more), s+more)
		}
		unread(t, name+" without its first byte", s[1:])
	}
	unread(t, "no bytes", "")
}

// P10.6: each number in another form, and each byte that is another one, is ErrArg.
func TestReadForms(t *testing.T) {
	for name, m := range messages() {
		l := parts(m)
		for i, part := range l {
			if i == 0 || i == 8 { // Kind, Ok
				continue
			}
			if i >= 10 && i < len(l)-2 && (i-10)%4 == 1 { // an entry's Kind
				continue
			}
			longer := string([]byte{part[0] + 1, 0}) + part[1:]
			other := append(append(append([]string{}, l[:i]...), longer), l[i+1:]...)
			unread(t, fmt.Sprint(name, ", a nought ahead in part ", i), strings.Join(other, ""))
			for _, head := range []string{"\x09", "\xff", "\x08\xff\xff\xff\xff\xff\xff\xff\xff"} {
				other[i] = head + part[1:]
				if i == 6 && name == "Lay" && head[0] == 8 { // a Commit has no bound
					continue
				}
				unread(t, fmt.Sprintf("%s, %x ahead in part %d", name, head, i), strings.Join(other, ""))
			}
		}
		for _, b := range []byte{2, 3, 128, 255} {
			other := append([]string{}, l...)
			other[8] = string([]byte{b})
			unread(t, fmt.Sprint(name, ", Ok ", b), strings.Join(other, ""))
		}
		for _, b := range []byte{0, 6, 7, 128, 255} {
			unread(t, fmt.Sprint(name, ", the kind ", b), string([]byte{b})+strings.Join(l[1:], ""))
		}
	}
	m := lay()
	m.Entries[0].Data = strings.Repeat("x", 1<<16) // whose length could pass for a kind that there is not
	l := parts(m)
	unread(t, "an entry without its kind", strings.Join(append(l[:11:11], l[12:]...), ""))
	for _, kind := range []api.EntryKind{3, 4, 255} {
		m.Entries[1].Kind = kind
		unread(t, fmt.Sprint("an entry's kind ", kind), wordsBytes(m))
	}
}

// P10.6: From, To and members that no int or no member has; lengths that no message has.
func TestReadNumbers(t *testing.T) {
	for _, x := range []uint64{0, 65, 255, 256, 1 << 16, 1<<32 + 3, 1 << 63, 1<<64 - 1, 1<<64 - 3} {
		for name, m := range messages() {
			l := parts(m)
			for _, i := range []int{1, 2} {
				other := append([]string{}, l...)
				other[i] = num(x)
				unread(t, fmt.Sprint(name, ", ", x, " in part ", i), strings.Join(other, ""))
			}
			other := append([]string{}, l...)
			if x > 0 {
				other[9] = num(x)
				unread(t, fmt.Sprint(name, ", ", x, " entries"), strings.Join(other, ""))
			}
		}
		l := parts(install())
		for _, list := range []string{num(1) + num(x), num(2) + num(1) + num(x), num(x), num(x) + num(1)} {
			l[10] = list
			unread(t, fmt.Sprintf("the members %x", list), strings.Join(l, ""))
		}
	}
}

// P10.6: whatever bytes are changed, what is read is what the words read, and its bytes are those.
func TestReadChanged(t *testing.T) {
	check := func(s string) {
		want, ok := wordsRead(s)
		m, e := vote.Read(s)
		if ok != (e == api.OK) || !equalMsg(m, want) || e != api.OK && e != api.ErrArg {
			t.Fatalf("Read(%x): %+v, %v\n wanted %+v, %v", s, m, e, want, ok)
		}
		if back, e := vote.Bytes(m); ok && (e != api.OK || back != s) {
			t.Fatalf("Bytes of what %x is: %x, %v", s, back, e)
		}
	}
	for _, m := range messages() {
		s := wordsBytes(m)
		for i := range len(s) {
			for b := range 256 {
				check(s[:i] + string([]byte{byte(b)}) + s[i+1:])
			}
			check(s[:i] + s[i+1:])
			check(s[:i] + "\x00" + s[i:])
			check(s[:i] + "\x01" + s[i:])
		}
	}
	r := draws()
	for range 20000 {
		s := []byte(wordsBytes(drawnMsg(r)))
		for range 1 + r.Intn(3) {
			s[r.Intn(len(s))] = byte(r.Intn(10))
		}
		check(string(s))
	}
}
