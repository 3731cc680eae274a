package code

import (
	"tessera/api"
)

// ReadNum reads a number at the front of s.
func ReadNum(s string) (x uint64, rest string, e api.Errno) {
	if e = numFault(s); e != api.OK {
		return 0, "", e
	}
	end := 1 + int(s[0])
	return number(s[1:end]), s[end:], api.OK
}

// numFault is what keeps a number from standing at the front of s. A number that
// begins with a byte 0 is none, for it has a shorter form.
func numFault(s string) api.Errno {
	switch {
	case len(s) == 0:
		return api.ErrShort
	case s[0] > wordBytes:
		return api.ErrForm
	case len(s)-1 < int(s[0]):
		return api.ErrShort
	case s[0] > 0 && s[1] == 0:
		return api.ErrForm
	}
	return api.OK
}

// ReadInt reads a number with a sign at the front of s.
func ReadInt(s string) (x int64, rest string, e api.Errno) {
	if len(s) < wordBytes {
		return 0, "", api.ErrShort
	}
	return int64(number(s[:wordBytes]) - signShift), s[wordBytes:], api.OK
}

// ReadText reads a text with its length ahead at the front of s.
func ReadText(s string) (t, rest string, e api.Errno) {
	n, body, e := ReadNum(s)
	switch {
	case e != api.OK:
		return "", "", e
	case n > uint64(len(body)):
		return "", "", api.ErrShort
	}
	return body[:n], body[n:], api.OK
}

// ReadKey reads a text as a key at the front of s.
func ReadKey(s string) (t, rest string, e api.Errno) {
	var out []byte
	marked := false
	for i := range len(s) {
		switch {
		case !marked && s[i] == keyMark:
			marked = true
		case !marked:
			out = append(out, s[i])
		case s[i] == keyNought:
			out = append(out, 0)
			marked = false
		case s[i] == keyEnd:
			return string(out), s[i+1:], api.OK
		default:
			return "", "", api.ErrForm
		}
	}
	return "", "", api.ErrShort
}

// ReadFrame reads the bytes of a frame at the front of s.
func ReadFrame(s string) (t, rest string, e api.Errno) {
	if len(s) < headBytes {
		return "", "", api.ErrShort
	}
	length, body := s[:lengthBytes], s[headBytes:]
	n := number(length)
	switch {
	case n > api.MaxFrame:
		return "", "", api.ErrLong
	case n > uint64(len(body)):
		return "", "", api.ErrShort
	case number(s[lengthBytes:headBytes]) != uint64(frameSum(length, body[:n])):
		return "", "", api.ErrSum
	}
	return body[:n], body[n:], api.OK
}

// Frames reads the frames at the front of s, as far as they are whole, and says
// beside a fault as well what stood ahead of it.
func Frames(s string) (l []string, used int, e api.Errno) {
	for used < len(s) {
		t, rest, e := ReadFrame(s[used:])
		if e != api.OK {
			return l, used, e
		}
		l = append(l, t)
		used = len(s) - len(rest)
	}
	return l, used, api.OK
}

// number is the number whose bytes are s, the highest first.
func number(s string) uint64 {
	var x uint64
	for i := range len(s) {
		x = x<<8 | uint64(s[i])
	}
	return x
}
