package seats_test

import (
	"fmt"
	"reflect"
	"testing"

	"tessera/api"
	"tessera/seats"
)

// room is where a list stands in memory, its spare room included.
type room struct {
	first, end uintptr
	name       string
}

// rooms gathers where the lists of a value stand, whatever it is made of.
func rooms(name string, v reflect.Value) []room {
	var out []room
	switch v.Kind() {
	case reflect.Slice:
		size := uintptr(v.Cap()) * v.Type().Elem().Size()
		if size > 0 {
			out = append(out, room{v.Pointer(), v.Pointer() + size, name})
		}
		for i := range v.Len() {
			out = append(out, rooms(fmt.Sprint(name, " ", i), v.Index(i))...)
		}
	case reflect.Struct:
		for i := range v.NumField() {
			out = append(out, rooms(name+"."+v.Type().Field(i).Name, v.Field(i))...)
		}
	}
	return out
}

// apart says whether no two lists share memory.
func apart(t *testing.T, call string, values ...any) {
	t.Helper()
	var all []room
	for i, v := range values {
		all = append(all, rooms(fmt.Sprint(i), reflect.ValueOf(v))...)
	}
	for i, a := range all {
		for _, b := range all[:i] {
			if a.first < b.end && b.first < a.end {
				t.Errorf("%s: %s and %s share memory", call, a.name, b.name)
			}
		}
	}
}

// roomy gives each list of a value spare room, in which something stands.
func roomy(v reflect.Value) {
	switch v.Kind() {
	case reflect.Slice:
		n := v.Len()
		l := reflect.MakeSlice(v.Type(), n+20, n+20)
		reflect.Copy(l, v)
		for i := range n {
			roomy(l.Index(i))
		}
		for i := range 20 {
			spoilSpare(l.Index(n + i))
		}
		v.Set(l.Slice(0, n))
	case reflect.Struct:
		for i := range v.NumField() {
			roomy(v.Field(i))
		}
	}
}

// spoilSpare puts something that may not be into an item behind a list's end.
func spoilSpare(v reflect.Value) {
	switch v.Kind() {
	case reflect.Int:
		v.SetInt(-77)
	case reflect.Struct:
		for i := range v.NumField() {
			if v.Field(i).CanUint() {
				v.Field(i).SetUint(77)
			}
		}
	}
}

// picture is all that the lists of a value hold, spare room included.
func picture(v reflect.Value) string {
	switch v.Kind() {
	case reflect.Slice:
		out := fmt.Sprint("[", v.Len(), "/", v.Cap(), ":")
		whole := v.Slice(0, v.Cap())
		for i := range whole.Len() {
			out += " " + picture(whole.Index(i))
		}
		return out + "]"
	case reflect.Struct:
		out := "{"
		for i := range v.NumField() {
			out += v.Type().Field(i).Name + picture(v.Field(i)) + " "
		}
		return out + "}"
	}
	return fmt.Sprintf("%#v", v.Interface())
}

// wide is a copy of a member, or of a message, in which each list has spare room.
func wide[T any](v T) T {
	roomy(reflect.ValueOf(&v).Elem())
	return v
}

// holding does a call, and holds it to what P0.1 says of what is handed in: it is not changed.
func holding(t *testing.T, call string, do func(), handed ...any) {
	t.Helper()
	var before []string
	for _, v := range handed {
		before = append(before, picture(reflect.ValueOf(v)))
	}
	do()
	for i, v := range handed {
		if now := picture(reflect.ValueOf(v)); now != before[i] {
			t.Errorf("%s changed what it was handed:\n %s\n was %s", call, now, before[i])
		}
	}
}

// memoryPeers is members whose calls go each way.
func memoryPeers() map[string]api.Peer {
	out := roles()
	out["a leader that has to send"] = with(leader(), func(p *api.Peer) {
		p.Follows = []api.Follow{{Id: 1, Next: 5, Match: 4}, {Id: 3, Next: 5}, {Id: 5, Next: 6}}
	})
	out["a leader with readings"] = with(leader(), func(p *api.Peer) {
		p.Round = 9
		for round := uint64(4); round < 9; round++ {
			p.Reads = append(p.Reads, api.Read{Round: round, Index: 8, Acks: [][]int{{1, 2, 3}, {2, 3}}[round%2]})
		}
	})
	out["one whose readings are all ready"] = with(leader(), func(p *api.Peer) {
		p.Reads = []api.Read{{Round: 1, Acks: []int{1, 2, 3}}, {Round: 2, Acks: []int{1, 3, 5}}}
	})
	out["one that is new"] = fresh()
	out["one alone"] = one()
	out["one that is out"] = leading([]int{1, 3, 5}, 3, 3, 1)
	out["one that changes"] = changing(leader(), 1, 2, 3)
	out["one that goes"] = changing(leader(), 1, 3, 5)
	out["one of two"] = leading([]int{1, 2}, 3)
	out["unsure"] = unsure()
	out["one whose log is cut off"] = with(leading([]int{1, 2, 3}), func(p *api.Peer) {
		p.Base, p.BaseTerm, p.Snap, p.Commit, p.Log = 4, 2, "s", 4, nil
	})
	return out
}

// P0.1: no list that is handed in is kept or changed, spare room included; an answer's lists are its own, no two of
// them in one place.
func TestMemory(t *testing.T) {
	for name, from := range memoryPeers() {
		p := wide(copied(from))
		for id := range 7 {
			for _, in := range []bool{true, false} {
				holding(t, called(id, in)+" by "+name, func() {
					a, _, _ := alter(p, id, in)
					b, _, _ := alter(p, id, in)
					apart(t, called(id, in)+" by "+name, p, a, b)
				}, p)
			}
		}
		holding(t, "Quit of "+name, func() {
			a, _, _ := seats.Quit(p)
			b, _, _ := seats.Quit(p)
			apart(t, "Quit of "+name, p, a, b)
		}, p)
		holding(t, "Read of "+name, func() {
			a, _, l, _ := seats.Read(p)
			b, _, k, _ := seats.Read(p)
			apart(t, "Read of "+name, p, a, l, b, k)
		}, p)
		holding(t, "Ready of "+name, func() {
			a, l, e := seats.Ready(p)
			b, k, _ := seats.Ready(p)
			if e != api.OK {
				t.Errorf("Ready of %s: %v", name, e)
			}
			apart(t, "Ready of "+name, p, a, l, b, k)
		}, p)
		holding(t, "Busy of "+name, func() { seats.Busy(p) }, p)
	}
}

// P0.1: the same of what is refused.
func TestMemoryRefused(t *testing.T) {
	for i, from := range spoiled() {
		p := wide(copied(from))
		holding(t, fmt.Sprint("calls of what may not be, ", i), func() {
			for id := range 7 {
				seats.Add(p, id)
				seats.Remove(p, id)
			}
			seats.Busy(p)
			seats.Quit(p)
			seats.Read(p)
			seats.Ready(p)
		}, p)
	}
}

// P0.1: what a caller does to an answer, or to what it handed in, changes nothing for the other one, nor for another
// part of the answer.
func TestMemoryApart(t *testing.T) {
	p := leader()
	got, _, e := seats.Add(p, 4)
	if e != api.OK {
		t.Fatal(e)
	}
	want := copied(got)
	p.Members[0], p.BaseMembers[0], p.Log[1].Members[0], p.Log[5].Data, p.Follows[0].Next, p.Reads[1].Acks[0] = 9, 9, 9, "other", 9, 9
	if !equal(got, want) {
		t.Errorf("Add kept what it was handed: %+v", got)
	}
	got.Members[0] = 8
	if got.Log[6].Members[0] != 1 {
		t.Errorf("Members are those of the entry: %+v", got)
	}
	p = with(leader(), func(p *api.Peer) { p.Reads[1].Acks = []int{1, 2, 3} })
	was := copied(p)
	got, l, e := seats.Ready(p)
	if e != api.OK || len(l) != 1 {
		t.Fatalf("%+v, %v", l, e)
	}
	want = copied(got)
	l[0].Acks[0] = 9
	if !equal(p, was) || !equal(got, want) {
		t.Errorf("what is ready is shared: %+v, %+v", p, got)
	}
	got, _, sent, e := seats.Read(leader())
	if e != api.OK {
		t.Fatal(e)
	}
	want = copied(got)
	sent[1].Members[0], sent[2].Entries[0].Data, sent[2].Entries[1].Members[0] = 9, "other", 9
	if !equal(got, want) {
		t.Errorf("what is sent is shared: %+v", got)
	}
}
