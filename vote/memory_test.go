package vote_test

import (
	"fmt"
	"reflect"
	"slices"
	"testing"

	"tessera/api"
	"tessera/vote"
)

// room is where a list stands in memory, its spare room included.
type room struct {
	first, end uintptr
	name       string
}

// rooms gathers where the lists of a value stand, whatever it is made of.
func rooms(name string, v reflect.Value) []room {
	var out []room
	switch v.Kind() {
	case reflect.Slice:
		size := uintptr(v.Cap()) * v.Type().Elem().Size()
		if size > 0 {
			out = append(out, room{v.Pointer(), v.Pointer() + size, name})
		}
		for i := range v.Len() {
			out = append(out, rooms(fmt.Sprint(name, " ", i), v.Index(i))...)
		}
	case reflect.Struct:
		for i := range v.NumField() {
			out = append(out, rooms(name+"."+v.Type().Field(i).Name, v.Field(i))...)
		}
	}
	return out
}

// apart says whether no two lists share memory.
func apart(t *testing.T, call string, values ...any) {
	t.Helper()
	var all []room
	for i, v := range values {
		all = append(all, rooms(fmt.Sprint(i), reflect.ValueOf(v))...)
	}
	for i, a := range all {
		for _, b := range all[:i] {
			if a.first < b.end && b.first < a.end {
				t.Errorf("%s: %s and %s share memory", call, a.name, b.name)
			}
		}
	}
}

// roomy gives each list of a value spare room, in which something stands.
func roomy(v reflect.Value) {
	switch v.Kind() {
	case reflect.Slice:
		n := v.Len()
		l := reflect.MakeSlice(v.Type(), n+3, n+3)
		reflect.Copy(l, v)
		for i := range n {
			roomy(l.Index(i))
		}
		for i := range 3 {
			spoilSpare(l.Index(n + i))
		}
		v.Set(l.Slice(0, n))
	case reflect.Struct:
		for i := range v.NumField() {
			roomy(v.Field(i))
		}
	}
}

// spoilSpare puts something that may not be into an item behind a list's end.
func spoilSpare(v reflect.Value) {
	switch v.Kind() {
	case reflect.Int:
		v.SetInt(-77)
	case reflect.Struct:
		for i := range v.NumField() {
			if v.Field(i).CanUint() {
				v.Field(i).SetUint(77)
			}
		}
	}
}

// picture is all that the lists of a value hold, spare room included.
func picture(v reflect.Value) string {
	switch v.Kind() {
	case reflect.Slice:
		out := fmt.Sprint("[", v.Len(), "/", v.Cap(), ":")
		whole := v.Slice(0, v.Cap())
		for i := range whole.Len() {
			out += " " + picture(whole.Index(i))
		}
		return out + "]"
	case reflect.Struct:
		out := "{"
		for i := range v.NumField() {
			out += v.Type().Field(i).Name + picture(v.Field(i)) + " "
		}
		return out + "}"
	}
	return fmt.Sprintf("%#v", v.Interface())
}

// wide is a copy of a member, or of a message, in which each list has spare room.
func wide[T any](v T) T {
	roomy(reflect.ValueOf(&v).Elem())
	return v
}

// holding does a call, and holds it to what P0.1 says of what is handed in: it is not changed.
func holding(t *testing.T, call string, do func(), handed ...any) {
	t.Helper()
	var before []string
	for _, v := range handed {
		before = append(before, picture(reflect.ValueOf(v)))
	}
	do()
	for i, v := range handed {
		if now := picture(reflect.ValueOf(v)); now != before[i] {
			t.Errorf("%s changed what it was handed:\n %s\n was %s", call, now, before[i])
		}
	}
}

// P0.1: no list that is handed in is kept or changed, spare room included; an answer's lists are its own, no two of
// them in one place.
func TestMemory(t *testing.T) {
	near := func(p *api.Peer) { p.Idle = 11 }
	bare := with(follower(), func(p *api.Peer) { p.Vote = 0 })
	for name, from := range map[string]api.Peer{
		"a follower": follower(), "a candidate": candidate(), "a leader": leader(), "one that votes": bare,
		"a follower that campaigns": with(follower(), near), "a candidate that campaigns": with(candidate(), near),
		"a leader that won": won(), "one that is new": fresh(), "one alone": {Id: 1, Members: []int{1}, BaseMembers: []int{1}, Wait: 1},
	} {
		p := wide(copied(from))
		step := func(call string, got api.Peer, sent []api.Msg, e api.Errno) {
			if e != api.OK {
				t.Errorf("%s of %s: %v", call, name, e)
			}
			apart(t, call+" of "+name, p, got, sent)
		}
		holding(t, "Tick of "+name, func() {
			got, sent, e := vote.Tick(p, 3)
			step("Tick", got, sent, e)
		}, p)
		later := ask()
		later.Term = 9
		for _, m := range []api.Msg{ask(), told(), later} {
			m.To, m.From = p.Id, 3
			m = wide(m)
			holding(t, "Take of "+name, func() {
				got, sent, e := vote.Take(p, m)
				step("Take", got, sent, e)
				apart(t, "Take of "+name, m, got, sent)
			}, p, m)
		}
		for _, term := range []uint64{0, 6, 9} {
			holding(t, "Down of "+name, func() {
				got, e := vote.Down(p, term)
				step("Down", got, nil, e)
			}, p)
		}
		holding(t, "what asks of "+name, func() {
			last, _ := vote.Last(p)
			for i := range last + 2 {
				vote.Term(p, i)
				apart(t, "Members of "+name, p, vote.Members(p, i), vote.Members(p, i))
			}
			vote.May(p)
			vote.Same(p, p)
			vote.Same(p, from)
		}, p)
	}
}

// P0.1: the same of New, of Majority, and of a message as bytes and back.
func TestMemoryOfLists(t *testing.T) {
	members := wide([]int{1, 2, 3})
	holding(t, "New", func() {
		p, e := vote.New(1, 1, members...)
		if e != api.OK {
			t.Error(e)
		}
		apart(t, "New", members, p)
	}, members)
	turned, ids := wide([]int{3, 1, 2}), wide([]int{9, 2, 2, 1})
	holding(t, "Majority", func() {
		if !vote.Majority(turned, ids...) {
			t.Errorf("Majority(%v, %v)", turned, ids)
		}
	}, turned, ids)
	for name, m := range messages() {
		m := wide(copiedMsg(m))
		holding(t, name, func() {
			vote.MayMsg(m)
			s, e := vote.Bytes(m)
			a, f := vote.Read(s)
			b, g := vote.Read(s)
			if e != api.OK || f != api.OK || g != api.OK {
				t.Errorf("%s: %v, %v, %v", name, e, f, g)
			}
			apart(t, name, m, a, b)
		}, m)
	}
}

// P0.1: what a caller does to an answer, or to what it handed in, changes nothing for the other one.
func TestMemoryApart(t *testing.T) {
	members := []int{1, 2, 3}
	p, _ := vote.New(2, 1, members...)
	members[0] = 3
	if !slices.Equal(p.Members, []int{1, 2, 3}) || !slices.Equal(p.BaseMembers, []int{1, 2, 3}) {
		t.Errorf("New kept what it was handed: %+v", p)
	}
	p.Members[0] = 9
	if !slices.Equal(p.BaseMembers, []int{1, 2, 3}) {
		t.Errorf("BaseMembers by Members: %+v", p)
	}
	from := candidate()
	got, _, e := vote.Take(from, told())
	if e != api.OK {
		t.Fatal(e)
	}
	got.Log[1].Members[0], got.Members[0], got.Log[0].Data = 9, 9, "changed"
	if !equal(from, candidate()) {
		t.Errorf("what was handed in by what was answered: %+v", from)
	}
}
