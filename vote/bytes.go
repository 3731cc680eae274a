package vote

import (
	"strings"

	"tessera/api"
	"tessera/code"
)

// Bytes is m as bytes.
func Bytes(m api.Msg) (string, api.Errno) {
	if e := MayMsg(m); e != api.OK {
		return "", e
	}
	var out strings.Builder
	out.WriteByte(byte(m.Kind))
	for _, x := range []uint64{uint64(m.From), uint64(m.To), m.Term, m.Index, m.LogTerm, m.Commit, m.Round} {
		out.WriteString(code.Num(x))
	}
	if m.Ok {
		out.WriteByte(1)
	} else {
		out.WriteByte(0)
	}
	out.WriteString(code.Num(uint64(len(m.Entries))))
	for _, entry := range m.Entries {
		out.WriteString(code.Num(entry.Term))
		out.WriteByte(byte(entry.Kind))
		out.WriteString(code.Text(entry.Data))
		out.WriteString(idBytes(entry.Members))
	}
	out.WriteString(idBytes(m.Members))
	out.WriteString(code.Text(m.Snap))
	return out.String(), api.OK
}

func idBytes(ids []int) string {
	var out strings.Builder
	out.WriteString(code.Num(uint64(len(ids))))
	for _, id := range ids {
		out.WriteString(code.Num(uint64(id)))
	}
	return out.String()
}

// Read is the message whose bytes s is.
func Read(s string) (api.Msg, api.Errno) {
	r := &reader{rest: s}
	m := r.msg()
	if r.failed || r.rest != "" || MayMsg(m) != api.OK {
		return api.Msg{}, api.ErrArg
	}
	return m, api.OK
}

// reader takes what stands at the front of its bytes, one thing behind the other. Once something is not
// there it has failed, and there is nothing more.
type reader struct {
	rest   string
	failed bool
}

func (r *reader) msg() (m api.Msg) {
	m.Kind = api.MsgKind(r.byteUpTo(byte(api.Install)))
	m.From, m.To = r.id(), r.id()
	m.Term, m.Index, m.LogTerm = r.num(), r.num(), r.num()
	m.Commit, m.Round = r.num(), r.num()
	m.Ok = r.byteUpTo(1) == 1
	m.Entries = r.entries()
	m.Members = r.ids()
	m.Snap = r.text()
	return m
}

func (r *reader) entries() []api.Entry {
	var out []api.Entry
	for range r.numUpTo(api.MaxLay) {
		out = append(out, r.entry())
	}
	return out
}

func (r *reader) entry() (entry api.Entry) {
	entry.Term = r.num()
	entry.Kind = api.EntryKind(r.byteUpTo(byte(api.Seats)))
	entry.Data = r.text()
	entry.Members = r.ids()
	return entry
}

func (r *reader) ids() []int {
	var out []int
	for range r.numUpTo(api.MaxNodes) {
		out = append(out, r.id())
	}
	return out
}

func (r *reader) id() int { return r.numUpTo(api.MaxNodes) }

// numUpTo is a number that is not above a bound, so that no length makes work that no message has.
func (r *reader) numUpTo(bound int) int {
	x := r.num()
	if x > uint64(bound) {
		r.fail()
		return 0
	}
	return int(x)
}

func (r *reader) num() uint64 {
	x, rest, e := code.ReadNum(r.rest)
	if e != api.OK {
		r.fail()
		return 0
	}
	r.rest = rest
	return x
}

func (r *reader) text() string {
	t, rest, e := code.ReadText(r.rest)
	if e != api.OK {
		r.fail()
		return ""
	}
	r.rest = rest
	return t
}

func (r *reader) byteUpTo(bound byte) byte {
	if r.rest == "" || r.rest[0] > bound {
		r.fail()
		return 0
	}
	x := r.rest[0]
	r.rest = r.rest[1:]
	return x
}

func (r *reader) fail() { r.failed, r.rest = true, "" }
