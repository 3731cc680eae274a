package logs_test

import (
	"fmt"
	"reflect"
	"testing"

	"tessera/api"
	"tessera/logs"
)

// room is where a list stands in memory, its spare room included.
type room struct {
	first, end uintptr
	name       string
}

// rooms gathers where the lists of a value stand, whatever it is made of.
func rooms(name string, v reflect.Value) []room {
	var out []room
	switch v.Kind() {
	case reflect.Slice:
		size := uintptr(v.Cap()) * v.Type().Elem().Size()
		if size > 0 {
			out = append(out, room{v.Pointer(), v.Pointer() + size, name})
		}
		for i := range v.Len() {
			out = append(out, rooms(fmt.Sprint(name, " ", i), v.Index(i))...)
		}
	case reflect.Struct:
		for i := range v.NumField() {
			out = append(out, rooms(name+"."+v.Type().Field(i).Name, v.Field(i))...)
		}
	}
	return out
}

// apart says whether no two lists share memory.
func apart(t *testing.T, call string, values ...any) {
	t.Helper()
	var all []room
	for i, v := range values {
		all = append(all, rooms(fmt.Sprint(i), reflect.ValueOf(v))...)
	}
	for i, a := range all {
		for _, b := range all[:i] {
			if a.first < b.end && b.first < a.end {
				t.Errorf("%s: %s and %s share memory", call, a.name, b.name)
			}
		}
	}
}

// roomy gives each list of a value spare room, in which something stands.
func roomy(v reflect.Value) {
	switch v.Kind() {
	case reflect.Slice:
		n := v.Len()
		l := reflect.MakeSlice(v.Type(), n+20, n+20)
		reflect.Copy(l, v)
		for i := range n {
			roomy(l.Index(i))
		}
		for i := range 20 {
			spoilSpare(l.Index(n + i))
		}
		v.Set(l.Slice(0, n))
	case reflect.Struct:
		for i := range v.NumField() {
			roomy(v.Field(i))
		}
	}
}

// spoilSpare puts something that may not be into an item behind a list's end.
func spoilSpare(v reflect.Value) {
	switch v.Kind() {
	case reflect.Int:
		v.SetInt(-77)
	case reflect.Struct:
		for i := range v.NumField() {
			if v.Field(i).CanUint() {
				v.Field(i).SetUint(77)
			}
		}
	}
}

// picture is all that the lists of a value hold, spare room included.
func picture(v reflect.Value) string {
	switch v.Kind() {
	case reflect.Slice:
		out := fmt.Sprint("[", v.Len(), "/", v.Cap(), ":")
		whole := v.Slice(0, v.Cap())
		for i := range whole.Len() {
			out += " " + picture(whole.Index(i))
		}
		return out + "]"
	case reflect.Struct:
		out := "{"
		for i := range v.NumField() {
			out += v.Type().Field(i).Name + picture(v.Field(i)) + " "
		}
		return out + "}"
	}
	return fmt.Sprintf("%#v", v.Interface())
}

// wide is a copy of a member, or of a message, in which each list has spare room.
func wide[T any](v T) T {
	roomy(reflect.ValueOf(&v).Elem())
	return v
}

// holding does a call, and holds it to what P0.1 says of what is handed in: it is not changed.
func holding(t *testing.T, call string, do func(), handed ...any) {
	t.Helper()
	var before []string
	for _, v := range handed {
		before = append(before, picture(reflect.ValueOf(v)))
	}
	do()
	for i, v := range handed {
		if now := picture(reflect.ValueOf(v)); now != before[i] {
			t.Errorf("%s changed what it was handed:\n %s\n was %s", call, now, before[i])
		}
	}
}

// memoryPeers is members whose steps go each way.
func memoryPeers() map[string]api.Peer {
	out := roles()
	out["a leader at its Beat"] = with(leader(), func(p *api.Peer) { p.Idle = 2 })
	out["a leader that has to send to all"] = with(leader(), func(p *api.Peer) {
		p.Idle, p.Follows = 2, []api.Follow{{Id: 1, Next: 5, Match: 4}, {Id: 3, Next: 5}, {Id: 5, Next: 6}}
	})
	out["a follower that campaigns"] = with(follower(), func(p *api.Peer) { p.Idle = 11 })
	out["one that is new"] = fresh()
	out["one alone"] = one()
	out["one alone that wins"] = with(one(), func(p *api.Peer) { p.Role, p.Lead, p.Idle = api.Follower, 0, 9 })
	out["one whose log is cut off"] = with(follower(), func(p *api.Peer) { p.Log, p.Members, p.Commit = nil, []int{1, 2, 3}, 4 })
	return out
}

// memoryMsgs is messages that do each thing.
func memoryMsgs() []api.Msg {
	seats := api.Entry{Term: 6, Kind: api.Seats, Members: []int{1, 2, 3}}
	own := follower().Log
	round := heardOf(5, true, 7)
	round.Round = 3
	l := []api.Msg{
		layOf(8, 6, 9), layOf(8, 6, 9, seats, seats), layOf(5, 2, 9, seats, seats), layOf(4, 2, 9, own...), layOf(4, 2, 9, own[0], seats),
		layOf(2, 1, 9, append(entriesOf(2, 2), own[0], seats)...), layOf(0, 0, 0), layOf(0, 0, 9, seats, seats), layOf(9, 6, 0, seats),
		layOf(4, 2, 9, entriesOf(6)...), heardOf(1, true, 8), heardOf(3, false, 0), heardOf(3, true, 6), heardOf(5, false, 4), heardOf(9, true, 4), round,
	}
	for _, m := range l {
		m.Term = 9
		l = append(l, m)
	}
	return l
}

// P0.1: no list that is handed in is kept or changed, spare room included; an answer's lists are its own, no two of
// them in one place.
func TestMemory(t *testing.T) {
	for name, from := range memoryPeers() {
		p := wide(copied(from))
		for _, m := range memoryMsgs() {
			m = wide(copiedMsg(m))
			holding(t, "Take of "+name, func() {
				got, sent, e := logs.Take(p, m)
				if e != api.OK {
					t.Errorf("Take of %s: %v", name, e)
				}
				apart(t, fmt.Sprintf("Take of %s, %+v", name, m), p, m, got, sent)
			}, p, m)
		}
		holding(t, "Tick of "+name, func() {
			got, sent, e := logs.Tick(p, 3)
			if e != api.OK {
				t.Errorf("Tick of %s: %v", name, e)
			}
			apart(t, "Tick of "+name, p, got, sent)
		}, p)
		holding(t, "Propose of "+name, func() {
			a, _, _ := logs.Propose(p, "x")
			b, _, _ := logs.Propose(p, "y")
			apart(t, "Propose of "+name, p, a, b)
		}, p)
		holding(t, "Advance of "+name, func() {
			a, e := logs.Advance(p)
			b, _ := logs.Advance(p)
			if e != api.OK {
				t.Errorf("Advance of %s: %v", name, e)
			}
			apart(t, "Advance of "+name, p, a, b)
		}, p)
	}
}

// P0.1: the same of what asks alone.
func TestMemoryOfAnswers(t *testing.T) {
	for name, from := range memoryPeers() {
		p := wide(copied(from))
		p.Commit, p.Reads = p.Base+uint64(len(p.Log)), nil
		holding(t, "what asks of "+name, func() {
			for to := range 7 {
				a, _ := logs.Send(p, to)
				b, _ := logs.Send(p, to)
				apart(t, "Send of "+name, p, a, b)
			}
			for i := range p.Commit + 2 {
				a, _ := logs.At(p, i)
				b, _ := logs.At(p, i)
				apart(t, "At of "+name, p, a, b, logs.Done(p, i), logs.Done(p, i))
			}
		}, p)
	}
}

// P0.1: what a caller does to an answer, or to what it handed in, changes nothing for the other one.
func TestMemoryApart(t *testing.T) {
	m := layOf(8, 6, 9, api.Entry{Term: 6, Kind: api.Seats, Members: []int{1, 2}}, api.Entry{Term: 6, Data: "x"})
	got, _, e := logs.Take(follower(), m)
	if e != api.OK {
		t.Fatal(e)
	}
	m.Entries[0].Members[0], m.Entries[1].Data = 9, "changed"
	if got.Log[4].Members[0] != 1 || got.Members[0] != 1 || got.Log[5].Data != "x" {
		t.Errorf("Take kept what it was handed: %+v", got)
	}
	got.Members[0] = 9
	if got.Log[4].Members[0] != 1 {
		t.Errorf("Members are those of the entry: %+v", got)
	}
	p := leader()
	m, e = logs.Send(p, 5)
	if e != api.OK {
		t.Fatal(e)
	}
	m.Entries[0].Members[0], m.Entries[2].Data = 9, "changed"
	if !equal(p, leader()) {
		t.Errorf("what was handed in by what was answered: %+v", p)
	}
	p = with(follower(), func(p *api.Peer) { p.Commit = 8 })
	want := copied(p)
	done := logs.Done(p, 0)
	entry, e := logs.At(p, 6)
	if e != api.OK || len(done) != 4 {
		t.Fatalf("%+v, %v", done, e)
	}
	done[0].Data, done[1].Members[0], entry.Members[1] = "changed", 9, 9
	if !equal(p, want) {
		t.Errorf("what was handed in by what was answered: %+v", p)
	}
}
