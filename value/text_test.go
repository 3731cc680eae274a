package value_test

import (
	"fmt"
	"math"
	"math/big"
	"regexp"
	"slices"
	"strings"
	"testing"

	"tessera/api"
	"tessera/value"
)

// textWords is the chapter's words, written another way than in the package.
func textWords(v api.Value) string {
	switch v.Kind {
	case api.Bool:
		return fmt.Sprint(v.B)
	case api.Int:
		return fmt.Sprint(v.N)
	case api.Uid:
		return fmt.Sprintf("%#x", v.U)
	}
	out := `"`
	for _, c := range []byte(v.S) {
		switch {
		case strings.ContainsRune(`"\`, rune(c)):
			out += `\` + string(rune(c))
		case c == 10:
			out += `\n`
		case c < 32 || c > 126:
			out += fmt.Sprintf(`\x%02x`, c)
		default:
			out += string(rune(c))
		}
	}
	return out + `"`
}

// literals has the forms of literals, as a grammar; that numbers and lengths are in their bounds is another thing.
func literals() *regexp.Regexp {
	return regexp.MustCompile(`^(?:true|false|0|-?[1-9][0-9]*|0x[1-9a-f][0-9a-f]*|"(?:[ !#-\[\]-~]|\\\\|\\"|\\n|\\x(?:0[0-9b-f]|1[0-9a-f]|7f|[89a-f][0-9a-f]))*")$`)
}

// isLiteral says whether s is a literal of a value that may be.
func isLiteral(forms *regexp.Regexp, s string) bool {
	if !forms.MatchString(s) {
		return false
	}
	n, ok := new(big.Int).SetString(s, 0)
	switch {
	case s[0] == '"':
		return len(regexp.MustCompile(`\\x..|\\.|.`).FindAllString(s, -1)) <= api.MaxText+2
	case !ok:
		return true
	case strings.HasPrefix(s, "0x"):
		return n.IsUint64()
	}
	return n.IsInt64()
}

func TestTextExamples(t *testing.T) { // P3.2
	for _, c := range []struct {
		v    api.Value
		want string
	}{
		{truth(true), "true"},
		{truth(false), "false"},
		{number(0), "0"},
		{number(-1), "-1"},
		{number(10), "10"},
		{number(math.MinInt64), "-9223372036854775808"},
		{number(math.MaxInt64), "9223372036854775807"},
		{node(1), "0x1"},
		{node(255), "0xff"},
		{node(0x10), "0x10"},
		{node(math.MaxUint64), "0xffffffffffffffff"},
		{text(""), `""`},
		{text("a b"), `"a b"`},
		{text("\"\n"), `"\"\n"`},
		{text("\\n"), `"\\n"`},
		{text("\x00\n\x1f \"\\~\x7f\xff"), `"\x00\n\x1f \"\\~\x7f\xff"`},
		{text("\t\r\x0b"), `"\x09\x0d\x0b"`},
		{text("\u00e4"), `"\xc3\xa4"`},
		{text("0x1 true"), `"0x1 true"`},
	} {
		if got, e := value.Text(c.v); got != c.want || e != api.OK {
			t.Errorf("Text(%v): %s, %v; wanted %s", c.v, got, e, c.want)
		}
		if got, e := value.ReadText(c.want); got != c.v || e != api.OK {
			t.Errorf("ReadText(%s): %v, %v; wanted %v", c.want, got, e, c.v)
		}
	}
}

func TestTextThereAndBack(t *testing.T) { // P3.2, P3.3
	forms := literals()
	for _, v := range values() {
		s, e := value.Text(v)
		if s != textWords(v) || e != api.OK {
			t.Fatalf("Text(%v): %s, %v; wanted %s", v, s, e, textWords(v))
		}
		if !isLiteral(forms, s) {
			t.Fatalf("%s is no literal", s)
		}
		if got, e := value.ReadText(s); got != v || e != api.OK {
			t.Fatalf("ReadText(%s): %v, %v; wanted %v", s, got, e, v)
		}
	}
}

func checkNoLiteral(t *testing.T, s string) {
	t.Helper()
	if v, e := value.ReadText(s); v != (api.Value{}) || e != api.ErrValue {
		t.Errorf("ReadText(%.60q): %.60v, %v; wanted ErrValue", s, v, e)
	}
}

func TestReadTextFaults(t *testing.T) { // P3.2
	for _, s := range []string{
		"", " ", "\n", "a", "nil", "true ", " true", "True", "TRUE", "tru", "truee", "t", "1b", "falsetrue",
		"01", "-0", "-01", "00", "+1", "+0", "--1", "-", "+", "1.0", "1e3", "1_000", " 1", "1 ", "0b1", "0o7", "1\n", "1\x00",
		"9223372036854775808", "-9223372036854775809", "18446744073709551616", "99999999999999999999999999",
		"0x", "0x0", "0x00", "0x01", "0xFF", "0xfF", "0XFF", "0Xff", "x1", "0xg", "0x-1", "0x+1", "0x_1", "0x1_0", "-0x1", "+0x1", "0x1 ", "0x 1", "0x0x1", "0x1.0",
		"0x10000000000000000", "0xfffffffffffffffff", "0x0ffffffffffffffff",
		`"`, `"a`, `a"`, `"a""`, `"a"b`, `"a" `, ` "a"`, `"""`, `'a'`, "`a`", `"a\"`, `"\`, `"\"`, `"a\`, `"\\\"`,
		`"\a"`, `"\t"`, `"\r"`, `"\0"`, `"\N"`, `"\'"`, `"\/"`, `"\ "`, `"\u0041"`, `"\101"`, `"\X00"`,
		`"\x"`, `"\x0"`, `"\x`, `"\x0`, `"\x00`, `"\xg0"`, `"\x0g"`, `"\x+1"`, `"\x-1"`, `"\x 1"`, `"\x_1"`, `"\x0""`,
		`"\x41"`, `"\x20"`, `"\x7e"`, `"\x30"`, `"\x0a"`, `"\x22"`, `"\x5c"`, `"\x0A"`, `"\xFF"`, `"\xfF"`, `"\xFf"`, `"\x0D"`, `"\x7F"`,
		"\"\n\"", "\"\x00\"", "\"\x1f\"", "\"\x7f\"", "\"\x80\"", "\"\xff\"", "\"\t\"", "\"\u00e4\"",
		`"` + strings.Repeat("a", api.MaxText+1) + `"`,
		`"` + strings.Repeat(`\x00`, api.MaxText+1) + `"`,
		`"` + strings.Repeat(`\n`, 3*api.MaxText) + `"`,
		strings.Repeat("1", 100000), "0x" + strings.Repeat("1", 100000), strings.Repeat(`"`, 100000), `"` + strings.Repeat(`\`, 100001),
	} {
		checkNoLiteral(t, s)
	}
	for _, s := range []string{strings.Repeat("a", api.MaxText), strings.Repeat("\xff", api.MaxText), strings.Repeat("\"", api.MaxText)} {
		if got, e := value.ReadText(textWords(text(s))); got != text(s) || e != api.OK {
			t.Errorf("the literal of a text of MaxText bytes %q: %v", s[0], e)
		}
	}
}

// Of each escape of two digits just one byte's is a literal, or none.
func TestReadTextEscapes(t *testing.T) { // P3.2
	forms := literals()
	for c := range 256 {
		for _, s := range []string{fmt.Sprintf(`"\x%02x"`, c), fmt.Sprintf(`"\x%02X"`, c), `"\` + string([]byte{byte(c)}) + `"`, `"` + string([]byte{byte(c)}) + `"`} {
			checkReadText(t, forms, s)
		}
	}
}

// checkReadText holds ReadText of s against the grammar; what is read is written as it was.
func checkReadText(t *testing.T, forms *regexp.Regexp, s string) {
	t.Helper()
	if !isLiteral(forms, s) {
		checkNoLiteral(t, s)
		return
	}
	v, e := value.ReadText(s)
	if e != api.OK || value.May(v) != api.OK || textWords(v) != s {
		t.Errorf("ReadText(%q): %v, %v", s, v, e)
	}
}

// All short rows of the bytes that literals are made of, and drawn ones, are literals just where the grammar says so.
func TestReadTextAsGrammar(t *testing.T) { // P3.2, P3.3
	forms := literals()
	for _, set := range []struct {
		bytes string
		n     int
	}{{"01-xfF+ ", 5}, {`"\nx07ag`, 5}, {"\"\\x1f\n\xff", 5}, {"truefals", 4}} {
		last := []string{""}
		for range set.n {
			var next []string
			for _, s := range last {
				for i := range len(set.bytes) {
					next = append(next, s+set.bytes[i:i+1])
				}
			}
			last = next
			for _, s := range next {
				checkReadText(t, forms, s)
				checkReadText(t, forms, `"`+s+`"`)
			}
		}
	}
	r := draws()
	for range 20000 {
		s := textWords(text(drawText(r, r.Intn(8))))
		at := r.Intn(len(s))
		checkReadText(t, forms, s)
		checkReadText(t, forms, s[:at])
		checkReadText(t, forms, s[:at]+s[at+1:])
		checkReadText(t, forms, s[:at]+drawText(r, 1)+s[at+1:])
		checkReadText(t, forms, s[:at]+drawText(r, 1)+s[at:])
	}
}

// termsWords is the chapter's words, written another way than in the package: bytes as runes of their own.
func termsWords(s string) []string {
	var runes []rune
	for _, c := range []byte(s) {
		runes = append(runes, rune(c))
	}
	set := map[string]bool{}
	for _, run := range strings.FieldsFunc(string(runes), func(c rune) bool {
		return c < 128 && !strings.ContainsRune("abcdefghijklmnopqrstuvwxyzABCDEFGHIJKLMNOPQRSTUVWXYZ0123456789", c)
	}) {
		var term []byte
		for _, c := range []rune(run) {
			if c < 128 {
				c = []rune(strings.ToLower(string(c)))[0]
			}
			term = append(term, byte(c))
		}
		set[string(term[:min(64, len(term))])] = true
	}
	var out []string
	for term := range set {
		out = append(out, term)
	}
	slices.Sort(out)
	return out
}

func TestTermsExamples(t *testing.T) { // P3.2
	run := strings.Repeat("a", 64)
	for _, c := range []struct {
		s    string
		want []string
	}{
		{"", nil},
		{" ", nil},
		{"-, \x00\n\x7f_\"", nil},
		{"Foo, foo-BAR 7", []string{"7", "bar", "foo"}},
		{"a", []string{"a"}},
		{"A a A", []string{"a"}},
		{"b a", []string{"a", "b"}},
		{"a1B2", []string{"a1b2"}},
		{"@A[Z`a{z/0:9", []string{"0", "9", "a", "z"}},
		{"\x7f\x80\x7f\xff\x7f", []string{"\x80", "\xff"}},
		{"\u00c4rger", []string{"\u00c4rger"}}, // bytes above 127 stay as they are
		{"x\x00y", []string{"x", "y"}},
		{run, []string{run}},
		{run + "b", []string{run}},
		{run + "bcd e", []string{run, "e"}},
		{run + strings.Repeat("A", 5000), []string{run}},
		{run[1:] + "B", []string{run[1:] + "b"}},
		{run + "x " + run + "y", []string{run}},
		{run[:63] + " " + run, []string{run[:63], run}},
	} {
		if got := value.Terms(c.s); !slices.Equal(got, c.want) {
			t.Errorf("Terms(%q): %q, wanted %q", c.s, got, c.want)
		}
	}
}

func TestTerms(t *testing.T) { // P3.2, P3.3
	r := draws()
	all := texts()
	for n := range 300 {
		words := ""
		for range r.Intn(12) {
			words += drawText(r, r.Intn(4)) + []string{" ", "", strings.Repeat("Ab", n)}[r.Intn(3)]
		}
		all = append(all, words)
	}
	for i := range 256 {
		all = append(all, "a"+string([]byte{byte(i)})+"B")
	}
	for _, s := range all {
		got := value.Terms(s)
		if !slices.Equal(got, termsWords(s)) {
			t.Fatalf("Terms(%q): %q, wanted %q", s, got, termsWords(s))
		}
		for _, term := range got {
			if again := value.Terms(term); !slices.Equal(again, []string{term}) {
				t.Fatalf("Terms(%q): %q, wanted it alone", term, again)
			}
		}
	}
}

func TestTermsTakesNewMemory(t *testing.T) { // P0.1
	one := value.Terms("a b c")
	_ = append(one, "z")
	one[0] = "z"
	if two := value.Terms("a b c"); !slices.Equal(two, []string{"a", "b", "c"}) {
		t.Errorf("a list that was answered earlier is seen in a later one: %q", two)
	}
}

// No call panics, and what answers an error answers nothing else.
func TestNoCallPanics(t *testing.T) { // P0.1
	r := draws()
	for range 20000 {
		s := drawText(r, r.Intn(30))
		v := api.Value{Kind: api.ValueKind(r.Intn(7)), B: r.Intn(2) == 0, N: int64(r.Uint64()), S: s, U: r.Uint64()}
		for _, v := range []api.Value{v, fieldOf(v, api.ValueKind(r.Intn(5)))} {
			b, e := value.Bytes(v)
			l, f := value.Text(v)
			if may := value.May(v); e != may || f != may || may != api.OK && (b != "" || l != "") {
				t.Fatalf("%v: May %v, Bytes %x, %v, Text %q, %v", v, may, b, e, l, f)
			}
		}
		if v, rest, e := value.Read(s); e != api.OK && (v != (api.Value{}) || rest != "") {
			t.Fatalf("Read(%x): %v, %x, %v", s, v, rest, e)
		}
		if v, e := value.ReadText(s); e != api.OK && (v != (api.Value{}) || e != api.ErrValue) {
			t.Fatalf("ReadText(%x): %v, %v", s, v, e)
		}
		value.Terms(s)
	}
}
