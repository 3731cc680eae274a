package trim_test

import (
	"fmt"
	"reflect"
	"testing"

	"tessera/api"
	"tessera/trim"
)

// room is where a list stands in memory, its spare room included.
type room struct {
	first, end uintptr
	name       string
}

// rooms gathers where the lists of a value stand, whatever it is made of.
func rooms(name string, v reflect.Value) []room {
	var out []room
	switch v.Kind() {
	case reflect.Slice:
		size := uintptr(v.Cap()) * v.Type().Elem().Size()
		if size > 0 {
			out = append(out, room{v.Pointer(), v.Pointer() + size, name})
		}
		for i := range v.Len() {
			out = append(out, rooms(fmt.Sprint(name, " ", i), v.Index(i))...)
		}
	case reflect.Struct:
		for i := range v.NumField() {
			out = append(out, rooms(name+"."+v.Type().Field(i).Name, v.Field(i))...)
		}
	}
	return out
}

// apart says whether no two lists share memory.
func apart(t *testing.T, call string, values ...any) {
	t.Helper()
	var all []room
	for i, v := range values {
		all = append(all, rooms(fmt.Sprint(i), reflect.ValueOf(v))...)
	}
	for i, a := range all {
		for _, b := range all[:i] {
			if a.first < b.end && b.first < a.end {
				t.Errorf("%s: %s and %s share memory", call, a.name, b.name)
			}
		}
	}
}

// roomy gives each list of a value spare room, in which something stands.
func roomy(v reflect.Value) {
	switch v.Kind() {
	case reflect.Slice:
		n := v.Len()
		l := reflect.MakeSlice(v.Type(), n+20, n+20)
		reflect.Copy(l, v)
		for i := range n {
			roomy(l.Index(i))
		}
		for i := range 20 {
			spoilSpare(l.Index(n + i))
		}
		v.Set(l.Slice(0, n))
	case reflect.Struct:
		for i := range v.NumField() {
			roomy(v.Field(i))
		}
	}
}

// spoilSpare puts something that may not be into an item behind a list's end.
func spoilSpare(v reflect.Value) {
	switch v.Kind() {
	case reflect.Int:
		v.SetInt(-77)
	case reflect.Struct:
		for i := range v.NumField() {
			if v.Field(i).CanUint() {
				v.Field(i).SetUint(77)
			}
		}
	}
}

// picture is all that the lists of a value hold, spare room included.
func picture(v reflect.Value) string {
	switch v.Kind() {
	case reflect.Slice:
		out := fmt.Sprint("[", v.Len(), "/", v.Cap(), ":")
		whole := v.Slice(0, v.Cap())
		for i := range whole.Len() {
			out += " " + picture(whole.Index(i))
		}
		return out + "]"
	case reflect.Struct:
		out := "{"
		for i := range v.NumField() {
			out += v.Type().Field(i).Name + picture(v.Field(i)) + " "
		}
		return out + "}"
	}
	return fmt.Sprintf("%#v", v.Interface())
}

// wide is a copy of a member, or of a message, in which each list has spare room.
func wide[T any](v T) T {
	roomy(reflect.ValueOf(&v).Elem())
	return v
}

// holding does a call, and holds it to what P0.1 says of what is handed in: it is not changed.
func holding(t *testing.T, call string, do func(), handed ...any) {
	t.Helper()
	var before []string
	for _, v := range handed {
		before = append(before, picture(reflect.ValueOf(v)))
	}
	do()
	for i, v := range handed {
		if now := picture(reflect.ValueOf(v)); now != before[i] {
			t.Errorf("%s changed what it was handed:\n %s\n was %s", call, now, before[i])
		}
	}
}

// memoryPeers is members whose steps go each way.
func memoryPeers() map[string]api.Peer {
	out := roles()
	out["a leader that has to send"] = with(leader(), func(p *api.Peer) {
		p.Follows = []api.Follow{{Id: 1, Next: 5, Match: 4}, {Id: 3, Next: 5}, {Id: 5, Next: 6}}
	})
	out["one that is new"] = fresh()
	out["one alone"] = with(one(), func(p *api.Peer) { p.Commit = 2 })
	out["one whose log is cut off"] = with(follower(), func(p *api.Peer) { p.Log, p.Members, p.Commit = nil, []int{1, 2, 3}, 4 })
	out["one that has committed all"] = with(follower(), func(p *api.Peer) { p.Commit = 10 })
	out["one that has committed nothing"] = with(follower(), func(p *api.Peer) { p.Commit = 4 })
	return out
}

// memoryMsgs is messages that do each thing.
func memoryMsgs() []api.Msg {
	var l []api.Msg
	for _, m := range otherKinds() {
		l = append(l, m)
	}
	seats := api.Entry{Term: 6, Kind: api.Seats, Members: []int{1, 2, 3}}
	l = append(l,
		installOf(1, 1), installOf(6, 3), installOf(8, 5), installOf(9, 5), installOf(9, 4), installOf(10, 6), installOf(11, 6),
		api.Msg{Kind: api.Lay, From: 1, To: 2, Term: 6, Index: 10, LogTerm: 6, Entries: []api.Entry{seats, seats}},
		api.Msg{Kind: api.Heard, From: 3, To: 2, Term: 6}, api.Msg{Kind: api.Told, From: 3, To: 2, Term: 6, Ok: true},
	)
	for _, m := range l {
		m.Term = 9
		l = append(l, m)
		if m.LogTerm <= 5 && len(m.Entries) == 0 {
			m.Term = 5
			l = append(l, m)
		}
	}
	return l
}

// P0.1: no list that is handed in is kept or changed, spare room included; an answer's lists are its own, no two of
// them in one place.
func TestMemory(t *testing.T) {
	for name, from := range memoryPeers() {
		p := wide(copied(from))
		for _, m := range memoryMsgs() {
			m = wide(copiedMsg(m))
			holding(t, "Step of "+name, func() {
				a, sent, e := trim.Step(p, m)
				b, _, _ := trim.Step(p, m)
				if e != api.OK {
					t.Errorf("Step of %s, %+v: %v", name, m, e)
				}
				apart(t, fmt.Sprintf("Step of %s, %+v", name, m), p, m, a, sent, b)
				if m.Kind == api.Install {
					a, sent, e = trim.Take(p, m)
					apart(t, fmt.Sprintf("Take of %s, %+v", name, m), p, m, a, sent)
				}
			}, p, m)
		}
		holding(t, "Compact of "+name, func() {
			for to := range p.Commit + 2 {
				a, e := trim.Compact(p, to, "s")
				b, _ := trim.Compact(p, to, "s")
				if (e == api.OK) != (to > p.Base && to <= p.Commit) {
					t.Errorf("Compact of %s to %d: %v", name, to, e)
				}
				apart(t, fmt.Sprintf("Compact of %s to %d", name, to), p, a, b)
			}
		}, p)
	}
}

// P0.1: the same of what is refused.
func TestMemoryRefused(t *testing.T) {
	for _, from := range spoiled() {
		p := wide(copied(from))
		for what, m := range wrongMsgs() {
			m = wide(copiedMsg(m))
			holding(t, "a call of what may not be, "+what, func() {
				trim.Step(p, m)
				trim.Take(p, m)
				trim.Step(p, installOf(11, 6))
				trim.Take(wide(follower()), m)
				trim.Compact(p, 6, "s")
			}, p, m)
		}
	}
}

// P0.1: what a caller does to an answer, or to what it handed in, changes nothing for the other one.
func TestMemoryApart(t *testing.T) {
	m := installOf(11, 6)
	got, _, e := trim.Take(follower(), m)
	if e != api.OK {
		t.Fatal(e)
	}
	m.Members[0] = 9
	if got.BaseMembers[0] != 1 || got.Members[0] != 1 {
		t.Errorf("Take kept what it was handed: %+v", got)
	}
	got.Members[0] = 9
	if got.BaseMembers[0] != 1 {
		t.Errorf("Members are those of the snapshot: %+v", got)
	}
	p := leader()
	if got, e = trim.Compact(p, 6, "s"); e != api.OK {
		t.Fatal(e)
	}
	got.BaseMembers[0], got.Members[0], got.Log[0].Data, got.Log[2].Members[0] = 9, 9, "changed", 9
	got.Follows[0].Next, got.Reads[0].Acks[0] = 9, 9
	if !equal(p, leader()) {
		t.Errorf("what was handed in by what was answered: %+v", p)
	}
	if got, e = trim.Compact(p, 6, "s"); e != api.OK {
		t.Fatal(e)
	}
	want := copied(got)
	p.BaseMembers[0], p.Members[0], p.Log[1].Members[0], p.Log[4].Members[0] = 9, 9, 9, 9
	p.Follows[0].Next, p.Reads[0].Acks[0] = 9, 9
	if !equal(got, want) {
		t.Errorf("Compact kept what it was handed: %+v", got)
	}
}
