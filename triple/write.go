package triple

import (
	"strings"

	"tessera/api"
	"tessera/code"
	"tessera/value"
)

const (
	putByte  = 0 // ahead of a put write's bytes
	takeByte = 1 // ahead of the bytes of what is taken away
	putSign  = "+"
	takeSign = "-"
	blank    = " " // between each two parts of a line
	parts    = 4   // of a line: its sign, uid, predicate, value
)

// Bytes is w as bytes.
func Bytes(w api.Write) (string, api.Errno) {
	if e := May(w.T); e != api.OK {
		return "", e
	}
	mark := byte(putByte)
	if w.Del {
		mark = takeByte
	}
	val, e := value.Bytes(w.T.Val)
	return string([]byte{mark}) + code.Num(w.T.Uid) + code.Text(w.T.Pred) + val, e
}

// Read reads a write at the front of s. Each closure reads one part and leaves the
// rest to the next one; whether the whole may be is asked last.
func Read(s string) (w api.Write, rest string, e api.Errno) {
	rest = s
	steps := []func() api.Errno{
		func() (e api.Errno) { w.Del, rest, e = readMark(rest); return e },
		func() (e api.Errno) { w.T.Uid, rest, e = code.ReadNum(rest); return e },
		func() (e api.Errno) { w.T.Pred, rest, e = code.ReadText(rest); return e },
		func() (e api.Errno) { w.T.Val, rest, e = value.Read(rest); return e },
		func() api.Errno { return May(w.T) },
	}
	for _, step := range steps {
		if e := step(); e != api.OK {
			return api.Write{}, "", e
		}
	}
	return w, rest, api.OK
}

// readMark reads the byte at the front of s that says whether a write takes away.
func readMark(s string) (del bool, rest string, e api.Errno) {
	switch {
	case len(s) == 0:
		return false, "", api.ErrShort
	case s[0] > takeByte:
		return false, "", api.ErrForm
	}
	return s[0] == takeByte, s[1:], api.OK
}

// Text is the line of w.
func Text(w api.Write) (string, api.Errno) {
	if e := May(w.T); e != api.OK {
		return "", e
	}
	sign := putSign
	if w.Del {
		sign = takeSign
	}
	uid, e := value.Text(api.Value{Kind: api.Uid, U: w.T.Uid})
	val, f := value.Text(w.T.Val)
	return strings.Join([]string{sign, uid, w.T.Pred, val}, blank), first(e, f)
}

// ReadText reads the line s. No part of a line but its value may hold a blank, and
// a value has one literal: so what stands between the first blanks tells all. A
// literal of another kind in the uid's place leaves the uid 0, which May refuses.
func ReadText(s string) (api.Write, api.Errno) {
	words := strings.SplitN(s, blank, parts)
	if len(words) < parts || words[0] != putSign && words[0] != takeSign {
		return api.Write{}, api.ErrTriple
	}
	uid, e := value.ReadText(words[1])
	val, f := value.ReadText(words[3])
	w := api.Write{Del: words[0] == takeSign, T: api.Triple{Uid: uid.U, Pred: words[2], Val: val}}
	if first(e, f, May(w.T)) != api.OK {
		return api.Write{}, api.ErrTriple
	}
	return w, api.OK
}
