package value

import (
	"slices"
	"strconv"
	"strings"

	"tessera/api"
)

const (
	hexDigits = "0123456789abcdef"
	uidMark   = "0x" // ahead of a uid's digits
	quote     = '"'  // ahead of a text and behind it
	escape    = '\\' // says that what follows it stands for another byte
	maxTerm   = 64   // bytes of a term
)

// Text is the literal of v.
func Text(v api.Value) (string, api.Errno) {
	if May(v) != api.OK {
		return "", api.ErrValue
	}
	var out []byte
	switch v.Kind {
	case api.Bool:
		out = strconv.AppendBool(out, v.B)
	case api.Int:
		out = strconv.AppendInt(out, v.N, 10)
	case api.Text:
		out = appendQuoted(out, v.S)
	case api.Uid:
		out = strconv.AppendUint(append(out, uidMark...), v.U, 16)
	}
	return string(out), api.OK
}

// appendQuoted puts the literal of the text s behind out.
func appendQuoted(out []byte, s string) []byte {
	out = append(out, quote)
	for i := range len(s) {
		out = appendByte(out, s[i])
	}
	return append(out, quote)
}

// appendByte puts what stands for c in a text's literal behind out.
func appendByte(out []byte, c byte) []byte {
	switch {
	case c == quote || c == escape:
		out = append(out, escape)
		fallthrough
	case c >= ' ' && c <= '~':
		return append(out, c)
	case c == '\n':
		return append(out, escape, 'n')
	}
	return append(out, escape, 'x', hexDigits[c>>4], hexDigits[c&15])
}

// ReadText reads the literal s. A value has one literal: so s is one if it is just
// what the value that it looks like is written as, and what looks like a value may
// be found out without much care.
func ReadText(s string) (api.Value, api.Errno) {
	v := likely(s)
	if t, e := Text(v); e != api.OK || t != s {
		return api.Value{}, api.ErrValue
	}
	return v, api.OK
}

// likely is the value whose literal s is, if it is one; else any value, or none.
func likely(s string) api.Value {
	switch {
	case s == "true" || s == "false":
		return api.Value{Kind: api.Bool, B: s == "true"}
	case strings.HasPrefix(s, uidMark):
		u, _ := strconv.ParseUint(s[len(uidMark):], 16, 64)
		return api.Value{Kind: api.Uid, U: u}
	case len(s) >= 2 && s[0] == quote:
		return api.Value{Kind: api.Text, S: unquoted(s[1 : len(s)-1])}
	}
	n, _ := strconv.ParseInt(s, 10, 64)
	return api.Value{Kind: api.Int, N: n}
}

// unquoted is the text that stands between its quotes as s.
func unquoted(s string) string {
	var out []byte
	for len(s) > 0 {
		c, used := s[0], 1
		if c == escape {
			c, used = escaped(s)
		}
		out = append(out, c)
		s = s[used:]
	}
	return string(out)
}

// escaped is the byte that the escape at the front of s stands for, and how many
// bytes of s say so.
func escaped(s string) (c byte, used int) {
	switch {
	case len(s) >= 4 && s[1] == 'x':
		x, _ := strconv.ParseUint(s[2:4], 16, 8)
		return byte(x), 4
	case len(s) >= 2 && s[1] == 'n':
		return '\n', 2
	case len(s) >= 2:
		return s[1], 2
	}
	return s[0], 1
}

// Terms is the terms of s, rising, each once.
func Terms(s string) []string {
	var terms []string
	var run []byte
	endRun := func() {
		if len(run) > 0 {
			terms = append(terms, string(run[:min(len(run), maxTerm)]))
		}
		run = run[:0]
	}
	for i := range len(s) {
		if c := small(s[i]); inTerm(c) {
			run = append(run, c)
		} else {
			endRun()
		}
	}
	endRun()
	slices.Sort(terms)
	return slices.Clip(slices.Compact(terms))
}

// small is c, or of a capital letter the small one.
func small(c byte) byte {
	if c >= 'A' && c <= 'Z' {
		return c - 'A' + 'a'
	}
	return c
}

// inTerm says whether c, which is no capital letter, stands in terms.
func inTerm(c byte) bool {
	return c >= 'a' && c <= 'z' || c >= '0' && c <= '9' || c > 127
}
