package vote_test

import (
	"fmt"
	"math"
	"reflect"
	"strings"
	"testing"

	"tessera/api"
	"tessera/vote"
)

// checkMsg is whether a message may be, by the program and by the words.
func checkMsg(t *testing.T, name string, m api.Msg, want api.Errno) {
	t.Helper()
	if got := vote.MayMsg(m); got != want || messageMay(m) != (want == api.OK) {
		t.Errorf("%s: %v, by the words %v", name, got, messageMay(m))
	}
}

// P10.1: each kind of messages, and no other.
func TestMayMsgKinds(t *testing.T) {
	for name, m := range messages() {
		checkMsg(t, name, m, api.OK)
		for _, kind := range []api.MsgKind{api.NoMsg, 6, 7, 255} {
			m.Kind = kind
			checkMsg(t, fmt.Sprint(name, " as the kind ", kind), m, api.ErrArg)
		}
	}
	for kind := range api.MsgKind(8) {
		want := api.ErrArg
		if kind == api.Ask || kind == api.Told || kind == api.Lay || kind == api.Heard {
			want = api.OK
		}
		checkMsg(t, fmt.Sprint("the kind ", kind, " with nothing"), api.Msg{Kind: kind, From: 1, To: 2, Term: 1}, want)
	}
	checkMsg(t, "a zero message", api.Msg{}, api.ErrArg)
}

// P10.1: From and To are numbers of members, and unlike; Term is above 0; at each bound, of each kind.
func TestMayMsgHead(t *testing.T) {
	for name, from := range messages() {
		for id, want := range map[int]api.Errno{
			1: api.OK, 64: api.OK, 9: api.OK, 3: api.ErrArg, 0: api.ErrArg, -1: api.ErrArg, 65: api.ErrArg, math.MinInt: api.ErrArg, 1<<32 + 1: api.ErrArg,
		} {
			m := from
			m.From, m.To = id, 3
			checkMsg(t, fmt.Sprint(name, " from ", id), m, want)
			m.From, m.To = 3, id
			checkMsg(t, fmt.Sprint(name, " to ", id), m, want)
		}
		for term, want := range map[uint64]api.Errno{
			5: api.OK, top: api.OK, top + 1: api.ErrArg, math.MaxUint64: api.ErrArg, 0: api.ErrArg,
		} {
			m := from
			m.Term = term
			checkMsg(t, fmt.Sprint(name, " of Term ", term), m, want)
		}
	}
	checkMsg(t, "an Ask of Term 0 and an empty log", api.Msg{Kind: api.Ask, From: 1, To: 2}, api.ErrArg)
}

// P10.1: each kind with each field that it does not name, and without each that it names.
func TestMayMsgFields(t *testing.T) {
	named := map[string]string{
		"Ask": " Index LogTerm ", "Told": " Ok ", "Lay": " Index LogTerm Commit Round Entries ",
		"Heard": " Ok Index Round ", "Install": " Index LogTerm Round Members Snap ",
	}
	all := api.Msg{
		Index: 7, LogTerm: 3, Commit: 1, Round: 1, Ok: true, Entries: []api.Entry{{Term: 5}}, Members: []int{1}, Snap: "s",
	}
	for name, from := range messages() {
		for _, field := range []string{"Index", "LogTerm", "Commit", "Round", "Ok", "Entries", "Members", "Snap"} {
			m := from
			want := api.OK
			if !strings.Contains(named[name], " "+field+" ") {
				want = api.ErrArg
			}
			reflect.ValueOf(&m).Elem().FieldByName(field).Set(reflect.ValueOf(all).FieldByName(field))
			checkMsg(t, name+" with "+field, m, want)
		}
		for _, field := range []string{"Commit", "Round", "Ok", "Entries", "Snap"} {
			m := from
			f := reflect.ValueOf(&m).Elem().FieldByName(field)
			f.Set(reflect.Zero(f.Type()))
			checkMsg(t, name+" without "+field, m, api.OK)
		}
	}
}

// P10.1: Index, LogTerm and Round at their bounds; of Ask and Lay Index and LogTerm are 0 together alone, of Install
// neither is.
func TestMayMsgPlace(t *testing.T) {
	place := func(m api.Msg, index, logTerm uint64) api.Msg {
		m.Index, m.LogTerm, m.Entries = index, logTerm, nil
		return m
	}
	for name, from := range map[string]api.Msg{"Ask": ask(), "Lay": lay(), "Install": install()} {
		none := api.OK
		if name == "Install" {
			none = api.ErrArg
		}
		checkMsg(t, name+" of nothing", place(from, 0, 0), none)
		checkMsg(t, name+" of an Index alone", place(from, 1, 0), api.ErrArg)
		checkMsg(t, name+" of a LogTerm alone", place(from, 0, 1), api.ErrArg)
		checkMsg(t, name+" of 1 and 1", place(from, 1, 1), api.OK)
		checkMsg(t, name+" of a LogTerm at Term", place(from, 1, 6), api.OK)
		checkMsg(t, name+" of a LogTerm above Term", place(from, 1, 7), api.ErrArg)
		checkMsg(t, name+" of the greatest Index", place(from, top, 1), api.OK)
		checkMsg(t, name+" of an Index above it", place(from, top+1, 1), api.ErrArg)
	}
	for index, want := range map[uint64]api.Errno{0: api.OK, top: api.OK, top + 1: api.ErrArg, math.MaxUint64: api.ErrArg} {
		m := heard()
		m.Index = index
		checkMsg(t, fmt.Sprint("Heard of Index ", index), m, want)
		for _, m := range []api.Msg{heard(), lay(), install()} {
			m.Round = index
			checkMsg(t, fmt.Sprint("the kind ", m.Kind, " of Round ", index), m, want)
		}
	}
	m := lay()
	m.Commit = math.MaxUint64
	checkMsg(t, "a Lay of the greatest Commit, which has no bound", m, api.OK)
}

// P10.1: the entries of a Lay: MaxLay at most, terms that do not fall, are at most Term and not below LogTerm.
func TestMayMsgEntries(t *testing.T) {
	for name, c := range map[string]struct {
		logTerm uint64
		terms   []uint64
		want    api.Errno
	}{
		"none":               {3, nil, api.OK},
		"of LogTerm":         {3, []uint64{3}, api.OK},
		"below LogTerm":      {3, []uint64{2}, api.ErrArg},
		"of Term":            {3, []uint64{6}, api.OK},
		"above Term":         {3, []uint64{7}, api.ErrArg},
		"the last above":     {3, []uint64{3, 4, 7}, api.ErrArg},
		"rising":             {3, []uint64{3, 4, 6}, api.OK},
		"falling":            {3, []uint64{3, 5, 4}, api.ErrArg},
		"falling at first":   {3, []uint64{4, 3, 5}, api.ErrArg},
		"0":                  {0, []uint64{0}, api.ErrArg},
		"1 behind nothing":   {0, []uint64{1}, api.OK},
		"0 behind others":    {3, []uint64{3, 0}, api.ErrArg},
		"LogTerm above them": {5, []uint64{3, 5}, api.ErrArg},
	} {
		m := api.Msg{Kind: api.Lay, From: 1, To: 2, Term: 6, LogTerm: c.logTerm}
		if c.logTerm > 0 {
			m.Index = 1
		}
		for _, term := range c.terms {
			m.Entries = append(m.Entries, api.Entry{Term: term})
		}
		checkMsg(t, name, m, c.want)
	}
	m := lay()
	m.Entries = drawnLog(draws(), 3, api.MaxLay)
	m.Term = m.Entries[api.MaxLay-1].Term
	checkMsg(t, "MaxLay entries", m, api.OK)
	m.Entries = append(m.Entries, api.Entry{Term: m.Term})
	checkMsg(t, "one more", m, api.ErrArg)
}

// P10.1: the members of an Install are 1 to MaxNodes numbers, rising, each once; so are those of a Lay's Seats.
func TestMayMsgMembers(t *testing.T) {
	many := []int{}
	for id := range api.MaxNodes {
		many = append(many, id+1)
	}
	for _, c := range []struct {
		members []int
		want    api.Errno
	}{
		{[]int{1}, api.OK}, {[]int{64}, api.OK}, {many, api.OK}, {[]int{3, 4}, api.OK},
		{nil, api.ErrArg}, {[]int{}, api.ErrArg}, {[]int{0}, api.ErrArg}, {[]int{-1}, api.ErrArg}, {[]int{65}, api.ErrArg},
		{[]int{2, 1}, api.ErrArg}, {[]int{1, 1}, api.ErrArg}, {append(many[:64:64], 65), api.ErrArg}, {append(many[:64:64], 64), api.ErrArg},
	} {
		m := install()
		m.Members = c.members
		checkMsg(t, fmt.Sprint("Install of ", c.members), m, c.want)
		m = lay()
		m.Entries[2].Members = c.members
		checkMsg(t, fmt.Sprint("Lay of Seats ", c.members), m, c.want)
	}
}

// P10.1: MayMsg is what the words say of messages of which one or two things were changed.
func TestMayMsgDrawn(t *testing.T) {
	r := draws()
	yes, no := 0, 0
	for range 60000 {
		m := drawnMsg(r)
		for range r.Intn(3) {
			spoil(r, &m)
		}
		want := api.ErrArg
		if messageMay(m) {
			want = api.OK
			yes++
		} else {
			no++
		}
		if got := vote.MayMsg(m); got != want {
			t.Fatalf("MayMsg(%+v): %v", m, got)
		}
	}
	if yes < 10000 || no < 10000 {
		t.Errorf("what is drawn tells little: %d may be, %d not", yes, no)
	}
}
