package keep

import (
	"slices"
	"strings"

	"tessera/api"
	"tessera/code"
	"tessera/peers"
	"tessera/vote"
)

// The first bytes of records.
const (
	wholeMark = 'N'
	voteMark  = 'H'
	baseMark  = 'B'
	cutMark   = 'C'
	entryMark = 'E'
)

// Diff is the records from one member to another one.
func Diff(old, now api.Peer) ([]string, api.Errno) {
	if !follows(old, now) {
		return nil, api.ErrArg
	}
	there := old.Log[min(now.Base-old.Base, uint64(len(old.Log))):] // what old has above now's Base
	alike := countAlike(there, now.Log)
	parting := now.Base + uint64(alike) + 1
	var out []string
	if old.Term != now.Term || old.Vote != now.Vote {
		out = append(out, voteRecord(now))
	}
	if alike < len(there) {
		out = append(out, cutRecord(parting))
	}
	if !sameBase(old, now) {
		out = append(out, baseRecord(now))
	}
	for at, entry := range now.Log[alike:] {
		out = append(out, entryRecord(parting+uint64(at), entry))
	}
	return out, api.OK
}

// follows says whether now may be what becomes of old.
func follows(old, now api.Peer) bool {
	return vote.May(old) == api.OK && vote.May(now) == api.OK &&
		old.Id == now.Id && old.Base <= now.Base && old.Term <= now.Term
}

// countAlike is how many entries two lists have in common, from their beginnings on.
func countAlike(a, b []api.Entry) int {
	n := 0
	for n < len(a) && n < len(b) && peers.SameEntry(a[n], b[n]) {
		n++
	}
	return n
}

func sameBase(a, b api.Peer) bool {
	return a.Base == b.Base && a.BaseTerm == b.BaseTerm && a.Snap == b.Snap && slices.Equal(a.BaseMembers, b.BaseMembers)
}

func wholeRecord(p api.Peer) string {
	var out strings.Builder
	out.WriteByte(wholeMark)
	out.WriteString(code.Num(p.Term) + code.Num(uint64(p.Vote)))
	out.WriteString(baseBytes(p))
	out.WriteString(code.Num(uint64(len(p.Log))))
	for _, entry := range p.Log {
		out.WriteString(peers.EntryBytes(entry))
	}
	return out.String()
}

func voteRecord(p api.Peer) string {
	return string(voteMark) + code.Num(p.Term) + code.Num(uint64(p.Vote))
}

func baseRecord(p api.Peer) string { return string(baseMark) + baseBytes(p) }

func baseBytes(p api.Peer) string {
	return code.Num(p.Base) + code.Num(p.BaseTerm) + peers.IdBytes(p.BaseMembers) + code.Text(p.Snap)
}

func cutRecord(from uint64) string { return string(cutMark) + code.Num(from) }

func entryRecord(i uint64, entry api.Entry) string {
	return string(entryMark) + code.Num(i) + peers.EntryBytes(entry)
}
