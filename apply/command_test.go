package apply_test

import (
	"fmt"
	"math/rand"
	"strings"
	"testing"

	"tessera/api"
	"tessera/apply"
)

// numbers are those at which the count of bytes changes, with their neighbours; 0 is not among them.
func numbers() []uint64 {
	out := []uint64{greatest - 1, greatest}
	for i := range 64 {
		out = append(out, 1<<i, 1<<i+1)
		if i > 0 {
			out = append(out, 1<<i-1)
		}
	}
	return out
}

func drawText(r *rand.Rand, n int) string {
	b := make([]byte, n)
	r.Read(b)
	return string(b)
}

// P15.1: commands by hand.
func TestCommandExamples(t *testing.T) {
	for _, one := range []struct {
		client, seq uint64
		data, want  string
	}{
		{7, 1, "abc", "0107" + "0101" + "0103" + "616263"},
		{1, 1, "", "0101" + "0101" + "00"},
		{256, 255, "\x00", "020100" + "01ff" + "0101" + "00"},
		{greatest, greatest, "\xff", "08ffffffffffffffff" + "08ffffffffffffffff" + "0101" + "ff"},
		{1, greatest, "x", "0101" + "08ffffffffffffffff" + "0101" + "78"},
		{greatest, 1, "x", "08ffffffffffffffff" + "0101" + "0101" + "78"},
	} {
		s, e := apply.Command(one.client, one.seq, one.data)
		if got := fmt.Sprintf("%x", s); got != one.want || e != api.OK {
			t.Errorf("Command(%d, %d, %q): %s, %v, not %s", one.client, one.seq, one.data, got, e, one.want)
		}
		client, seq, data, e := apply.ReadCommand(s)
		if client != one.client || seq != one.seq || data != one.data || e != api.OK {
			t.Errorf("ReadCommand(%x): %d, %d, %q, %v", s, client, seq, data, e)
		}
	}
}

// P15.1: a number 0 is ErrArg, also where the data are too long.
func TestCommandOfNought(t *testing.T) {
	for _, data := range []string{"", "x", strings.Repeat("x", api.MaxRecord), strings.Repeat("x", api.MaxRecord+1)} {
		for _, one := range [][2]uint64{{0, 0}, {0, 1}, {1, 0}, {0, greatest}, {greatest, 0}} {
			if s, e := apply.Command(one[0], one[1], data); s != "" || e != api.ErrArg {
				t.Errorf("Command(%d, %d, of %d bytes): %d bytes, %v", one[0], one[1], len(data), len(s), e)
			}
		}
	}
}

// P15.1: just MaxRecord bytes of a command are read again, one more is ErrLong, and no command.
func TestCommandBound(t *testing.T) {
	for _, one := range [][2]uint64{{1, 1}, {1, 256}, {256, 1}, {greatest, 1}, {1, greatest}, {greatest, greatest}} {
		head := numWords(one[0]) + numWords(one[1]) + numWords(api.MaxRecord-20)
		most := strings.Repeat("\xa5", api.MaxRecord-len(head))
		s, e := apply.Command(one[0], one[1], most)
		if len(s) != api.MaxRecord || s != commandWords(one[0], one[1], most) || e != api.OK {
			t.Errorf("Command(%d, %d) of just MaxRecord bytes: %d, %v", one[0], one[1], len(s), e)
		}
		if client, seq, data, e := apply.ReadCommand(s); client != one[0] || seq != one[1] || data != most || e != api.OK {
			t.Errorf("ReadCommand of just MaxRecord bytes: %d, %d, %d bytes, %v", client, seq, len(data), e)
		}
		for _, more := range []int{1, 2, 100, api.MaxRecord} {
			over := most + strings.Repeat("\xa5", more)
			if s, e := apply.Command(one[0], one[1], over); s != "" || e != api.ErrLong {
				t.Errorf("Command(%d, %d) of %d bytes too many: %d, %v", one[0], one[1], more, len(s), e)
			}
			readsNone(t, commandWords(one[0], one[1], over))
		}
	}
}

// readsNone fails unless ReadCommand says that bytes are no command.
func readsNone(t *testing.T, s string) {
	t.Helper()
	if client, seq, data, e := apply.ReadCommand(s); client != 0 || seq != 0 || data != "" || e != api.ErrCommand {
		t.Errorf("ReadCommand of %d bytes, %.40x: %d, %d, %.40q, %v", len(s), s, client, seq, data, e)
	}
}

// P15.1: bytes that are no command, each for one reason.
func TestReadCommandFaults(t *testing.T) {
	for why, s := range map[string]string{
		"nothing":                             "",
		"a letter":                            "x",
		"a client alone":                      numWords(7),
		"a client and a number":               numWords(7) + numWords(1),
		"a text too short":                    numWords(7) + numWords(1) + "\x01\x03ab",
		"a text's length that ends early":     numWords(7) + numWords(1) + "\x02\x01",
		"a text's length that goes round":     numWords(7) + numWords(1) + "\x08\xff\xff\xff\xff\xff\xff\xff\xffab",
		"a text's length below 0 as a number": numWords(7) + numWords(1) + "\x08\x80\x00\x00\x00\x00\x00\x00\x00ab",
		"the client 0":                        commandWords(0, 1, "abc"),
		"the number 0":                        commandWords(7, 0, "abc"),
		"both 0":                              commandWords(0, 0, ""),
		"a client with a nought ahead":        "\x02\x00\x07" + numWords(1) + textWords("abc"),
		"a client 0 that is a byte":           "\x01\x00" + numWords(1) + textWords("abc"),
		"a number with a nought ahead":        numWords(7) + "\x02\x00\x01" + textWords("abc"),
		"a number 0 that is a byte":           numWords(7) + "\x01\x00" + textWords("abc"),
		"a length with a nought ahead":        numWords(7) + numWords(1) + "\x02\x00\x03abc",
		"a length 0 that is a byte":           numWords(7) + numWords(1) + "\x01\x00",
		"a client of nine bytes":              "\x09\x01\x01\x01\x01\x01\x01\x01\x01\x01" + numWords(1) + textWords("abc"),
		"a number of nine bytes":              numWords(7) + "\x09\x01\x01\x01\x01\x01\x01\x01\x01\x01" + textWords("abc"),
		"a byte behind it":                    commandWords(7, 1, "abc") + "x",
		"a byte 0 behind it":                  commandWords(7, 1, "abc") + "\x00",
		"another command behind it":           commandWords(7, 1, "abc") + commandWords(7, 2, "abc"),
		"a byte ahead of it":                  "\x00" + commandWords(7, 1, "abc"),
		"a very long row of noughts":          strings.Repeat("\x00", 3*api.MaxRecord),
	} {
		if _, is := commandOf(s); is {
			t.Errorf("%s: a command by the words", why)
		}
		readsNone(t, s)
	}
}

// agreeCommand fails unless ReadCommand says of bytes what the words say.
func agreeCommand(t *testing.T, s string) {
	t.Helper()
	want, is := commandOf(s)
	wanted := api.ErrCommand
	if is {
		wanted = api.OK
	}
	client, seq, data, e := apply.ReadCommand(s)
	if (command{client, seq, data}) != want || e != wanted {
		t.Fatalf("ReadCommand(%x): %d, %d, %x, %v, not %+v", s, client, seq, data, e, want)
	}
	if e == api.OK {
		if again, e := apply.Command(client, seq, data); again != s || e != api.OK {
			t.Fatalf("Command of what was read of %x: %x, %v", s, again, e)
		}
	}
}

// eachRow tells all rows of up to so many of some bytes.
func eachRow(bytes string, most int, tell func(string)) {
	var further func(ahead string)
	further = func(ahead string) {
		tell(ahead)
		if len(ahead) == most {
			return
		}
		for i := range len(bytes) {
			further(ahead + bytes[i:i+1])
		}
	}
	further("")
}

// P15.1: all short rows of the bytes that count.
func TestReadCommandOfShortRows(t *testing.T) {
	commands := 0
	eachRow("\x00\x01\x02\x09a", 8, func(s string) {
		agreeCommand(t, s)
		if _, is := commandOf(s); is {
			commands++
		}
	})
	if commands < 100 {
		t.Errorf("only %d commands among the rows", commands)
	}
}

// P15.1, P0.8: drawn commands are written as the words say and read back; of each the beginnings, what has something
// behind it, and what has one byte changed, added or taken away are what the words say.
func TestCommandDrawn(t *testing.T) {
	r := draws()
	all := numbers()
	for i := range 400 {
		c := command{all[r.Intn(len(all))], all[r.Intn(len(all))], drawText(r, []int{0, 1, 3, 20, 255, 256, 300}[r.Intn(7)])}
		s, e := apply.Command(c.client, c.seq, c.data)
		if s != commandWords(c.client, c.seq, c.data) || e != api.OK {
			t.Fatalf("Command(%+v): %x, %v", c, s, e)
		}
		agreeCommand(t, s)
		if got, is := commandOf(s); got != c || !is {
			t.Fatalf("by the words %x is %+v, not %+v", s, got, c)
		}
		for n := range len(s) {
			readsNone(t, s[:n])
		}
		agreeCommand(t, s+drawText(r, 1+r.Intn(3)))
		if i%4 == 0 {
			edited(s, 24, func(s string) { agreeCommand(t, s) })
		}
	}
}

// edited tells bytes of which one of the first so many is changed, taken away, or has one ahead of it.
func edited(s string, most int, tell func(string)) {
	for at := range min(len(s), most) {
		tell(s[:at] + s[at+1:])
		for x := range 256 {
			tell(s[:at] + string([]byte{byte(x)}) + s[at+1:])
		}
		for _, x := range []string{"\x00", "\x01", "\x02", "\x08", "\x09", "a", "\xff"} {
			tell(s[:at] + x + s[at:])
		}
	}
}
