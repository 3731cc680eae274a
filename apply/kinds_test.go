package apply_test

import (
	"maps"
	"math"
	"slices"
	"strconv"
	"strings"
)

// The kinds of states that tests go over. Each step's answer says what the state was, so that a command that is done
// at another place, or twice, is answered otherwise.

func ints() kind[int] {
	return kind[int]{
		"int", 0,
		func(n int, data string) (int, string) { return n + len(data) + 1, strconv.Itoa(n) + data },
		strconv.Itoa,
		func(s string) (int, bool) {
			n, err := strconv.Atoi(s)
			return n, err == nil && strconv.Itoa(n) == s
		},
	}
}

func texts() kind[string] {
	return kind[string]{
		"string", "",
		func(s, data string) (string, string) { return s + data + ";", s },
		func(s string) string { return s },
		func(s string) (string, bool) { return s, true },
	}
}

// nothing is a kind with one state, which makes no bytes.
func nothing() kind[struct{}] {
	return kind[struct{}]{
		"struct{}", struct{}{},
		func(_ struct{}, data string) (struct{}, string) { return struct{}{}, data },
		func(struct{}) string { return "" },
		func(s string) (struct{}, bool) { return struct{}{}, s == "" },
	}
}

type pair struct {
	n    int
	last string
}

func structs() kind[pair] {
	return kind[pair]{
		"struct", pair{5, "first"},
		func(p pair, data string) (pair, string) { return pair{p.n * 3, data}, strconv.Itoa(p.n) + p.last },
		func(p pair) string { return strconv.Itoa(p.n) + " " + p.last },
		func(s string) (pair, bool) {
			head, last, is := strings.Cut(s, " ")
			n, err := strconv.Atoi(head)
			if !is || err != nil {
				return pair{}, false
			}
			return pair{n, last}, true
		},
	}
}

func lists() kind[[]string] {
	return kind[[]string]{
		"list", nil,
		func(l []string, data string) ([]string, string) {
			return append(slices.Clone(l), strconv.Quote(data)), strings.Join(l, ",")
		},
		func(l []string) string { return strings.Join(l, "\n") },
		func(s string) ([]string, bool) {
			if s == "" {
				return nil, true
			}
			return strings.Split(s, "\n"), true
		},
	}
}

func tallies() kind[map[string]int] {
	return kind[map[string]int]{
		"map", map[string]int{},
		func(m map[string]int, data string) (map[string]int, string) {
			m = maps.Clone(m)
			m[strconv.Quote(data)]++
			return m, strconv.Itoa(m[strconv.Quote(data)])
		},
		func(m map[string]int) string {
			out := ""
			for _, key := range slices.Sorted(maps.Keys(m)) {
				out += key + " " + strconv.Itoa(m[key]) + "\n"
			}
			return out
		},
		func(s string) (map[string]int, bool) {
			m := map[string]int{}
			for line := range strings.Lines(s) {
				at := strings.LastIndex(line, " ")
				n, err := strconv.Atoi(strings.TrimSuffix(line[at+1:], "\n"))
				if at < 0 || err != nil {
					return nil, false
				}
				m[line[:at]] = n
			}
			return m, true
		},
	}
}

// chain is a state that is pointed to; nil is its first one.
type chain struct {
	data   string
	behind *chain
}

func chains() kind[*chain] {
	var write func(c *chain) string
	write = func(c *chain) string {
		if c == nil {
			return ""
		}
		return textWords(c.data) + write(c.behind)
	}
	var read func(r *loose) *chain
	read = func(r *loose) *chain {
		if r.s == "" || r.bad {
			return nil
		}
		return &chain{r.text(), read(r)}
	}
	return kind[*chain]{
		"pointer", nil,
		func(c *chain, data string) (*chain, string) { return &chain{data, c}, write(c) },
		write,
		func(s string) (*chain, bool) {
			r := &loose{s: s}
			c := read(r)
			return c, !r.bad
		},
	}
}

// anys is states that are now of one type and now of another one, and nil at first.
func anys() kind[any] {
	write := func(v any) string {
		switch x := v.(type) {
		case int:
			return "i" + strconv.Itoa(x)
		case string:
			return "s" + x
		}
		return "nil"
	}
	return kind[any]{
		"any", nil,
		func(v any, data string) (any, string) {
			if _, is := v.(string); is {
				return len(data), write(v)
			}
			return write(v) + data, write(v)
		},
		write,
		func(s string) (any, bool) {
			switch {
			case s == "nil":
				return nil, true
			case strings.HasPrefix(s, "s"):
				return s[1:], true
			}
			n, err := strconv.Atoi(strings.TrimPrefix(s, "i"))
			return n, err == nil
		},
	}
}

func funcs() kind[func() int] {
	made := func(n int) func() int { return func() int { return n } }
	return kind[func() int]{
		"function", made(7),
		func(f func() int, data string) (func() int, string) {
			return made(f()*2 + len(data)), strconv.Itoa(f())
		},
		func(f func() int) string { return strconv.Itoa(f()) },
		func(s string) (func() int, bool) {
			n, err := strconv.Atoi(s)
			return made(n), err == nil
		},
	}
}

func arrays() kind[[2]float64] {
	text := func(x float64) string { return strconv.FormatUint(math.Float64bits(x), 10) }
	return kind[[2]float64]{
		"array", [2]float64{0, 1},
		func(a [2]float64, data string) ([2]float64, string) {
			return [2]float64{a[1], a[0]/2 + float64(len(data))}, text(a[0])
		},
		func(a [2]float64) string { return text(a[0]) + " " + text(a[1]) },
		func(s string) (a [2]float64, is bool) {
			for i, word := range strings.Fields(s) {
				bits, err := strconv.ParseUint(word, 10, 64)
				if i > 1 || err != nil {
					return a, false
				}
				a[i] = math.Float64frombits(bits)
			}
			return a, true
		},
	}
}
