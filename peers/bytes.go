package peers

import (
	"strings"

	"tessera/api"
	"tessera/code"
)

// EntryBytes is an entry as bytes.
func EntryBytes(entry api.Entry) string {
	return code.Num(entry.Term) + string([]byte{byte(entry.Kind)}) + code.Text(entry.Data) + IdBytes(entry.Members)
}

// IdBytes is members' numbers as bytes: how many there are, and each.
func IdBytes(ids []int) string {
	var out strings.Builder
	out.WriteString(code.Num(uint64(len(ids))))
	for _, id := range ids {
		out.WriteString(code.Num(uint64(id)))
	}
	return out.String()
}

// Reader takes what stands at the front of its bytes, one thing behind the other. Once something is not
// there it has failed, and there is nothing more.
type Reader struct {
	rest   string
	failed bool
}

// NewReader is a reader of s from its front on.
func NewReader(s string) *Reader { return &Reader{rest: s} }

// Ended says whether all that was asked for was there, and nothing stands behind it.
func (r *Reader) Ended() bool { return !r.failed && r.rest == "" }

// Entries is entries behind how many they are, which is not above a bound.
func (r *Reader) Entries(bound int) []api.Entry {
	var out []api.Entry
	for range r.numUpTo(bound) {
		if r.failed {
			break
		}
		out = append(out, r.Entry())
	}
	return out
}

// Entry is an entry of one of the kinds.
func (r *Reader) Entry() (entry api.Entry) {
	entry.Term = r.Num()
	entry.Kind = api.EntryKind(r.ByteUpTo(byte(api.Seats)))
	entry.Data = r.Text()
	entry.Members = r.Ids()
	return entry
}

// Ids is members' numbers behind how many they are.
func (r *Reader) Ids() []int {
	var out []int
	for range r.numUpTo(api.MaxNodes) {
		out = append(out, r.Id())
	}
	return out
}

// Id is a member's number, or 0.
func (r *Reader) Id() int { return r.numUpTo(api.MaxNodes) }

// numUpTo is a number that is not above a bound, so that no length makes work that no bytes have.
func (r *Reader) numUpTo(bound int) int {
	x := r.Num()
	if x > uint64(bound) {
		r.fail()
		return 0
	}
	return int(x)
}

// Num is any number.
func (r *Reader) Num() uint64 {
	x, rest, e := code.ReadNum(r.rest)
	if e != api.OK {
		r.fail()
		return 0
	}
	r.rest = rest
	return x
}

// Text is a text of any length.
func (r *Reader) Text() string {
	t, rest, e := code.ReadText(r.rest)
	if e != api.OK {
		r.fail()
		return ""
	}
	r.rest = rest
	return t
}

// ByteUpTo is a byte that is not above a bound.
func (r *Reader) ByteUpTo(bound byte) byte {
	if r.rest == "" || r.rest[0] > bound {
		r.fail()
		return 0
	}
	x := r.rest[0]
	r.rest = r.rest[1:]
	return x
}

func (r *Reader) fail() { r.failed, r.rest = true, "" }
