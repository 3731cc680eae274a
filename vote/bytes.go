package vote

import (
	"strings"

	"tessera/api"
	"tessera/code"
	"tessera/peers"
)

// Bytes is m as bytes.
func Bytes(m api.Msg) (string, api.Errno) {
	if e := MayMsg(m); e != api.OK {
		return "", e
	}
	var out strings.Builder
	out.WriteByte(byte(m.Kind))
	for _, x := range []uint64{uint64(m.From), uint64(m.To), m.Term, m.Index, m.LogTerm, m.Commit, m.Round} {
		out.WriteString(code.Num(x))
	}
	if m.Ok {
		out.WriteByte(1)
	} else {
		out.WriteByte(0)
	}
	out.WriteString(code.Num(uint64(len(m.Entries))))
	for _, entry := range m.Entries {
		out.WriteString(peers.EntryBytes(entry))
	}
	out.WriteString(peers.IdBytes(m.Members))
	out.WriteString(code.Text(m.Snap))
	return out.String(), api.OK
}

// Read is the message whose bytes s is.
func Read(s string) (api.Msg, api.Errno) {
	r := peers.NewReader(s)
	m := readMsg(r)
	if !r.Ended() || MayMsg(m) != api.OK {
		return api.Msg{}, api.ErrArg
	}
	return m, api.OK
}

func readMsg(r *peers.Reader) (m api.Msg) {
	m.Kind = api.MsgKind(r.ByteUpTo(byte(api.Install)))
	m.From, m.To = r.Id(), r.Id()
	m.Term, m.Index, m.LogTerm = r.Num(), r.Num(), r.Num()
	m.Commit, m.Round = r.Num(), r.Num()
	m.Ok = r.ByteUpTo(1) == 1
	m.Entries = r.Entries(api.MaxLay)
	m.Members = r.Ids()
	m.Snap = r.Text()
	return m
}
