package keep_test

import (
	"fmt"
	"reflect"
	"testing"

	"tessera/api"
	"tessera/keep"
)

// room is where a list stands in memory, its spare room included.
type room struct {
	first, end uintptr
	name       string
}

// rooms gathers where the lists of a value stand, whatever it is made of.
func rooms(name string, v reflect.Value) []room {
	var out []room
	switch v.Kind() {
	case reflect.Slice:
		size := uintptr(v.Cap()) * v.Type().Elem().Size()
		if size > 0 {
			out = append(out, room{v.Pointer(), v.Pointer() + size, name})
		}
		for i := range v.Len() {
			out = append(out, rooms(fmt.Sprint(name, " ", i), v.Index(i))...)
		}
	case reflect.Struct:
		for i := range v.NumField() {
			out = append(out, rooms(name+"."+v.Type().Field(i).Name, v.Field(i))...)
		}
	}
	return out
}

// apart says whether no two lists share memory.
func apart(t *testing.T, call string, values ...any) {
	t.Helper()
	var all []room
	for i, v := range values {
		all = append(all, rooms(fmt.Sprint(i), reflect.ValueOf(v))...)
	}
	for i, a := range all {
		for _, b := range all[:i] {
			if a.first < b.end && b.first < a.end {
				t.Errorf("%s: %s and %s share memory", call, a.name, b.name)
			}
		}
	}
}

// widen gives each list of a value spare room, in which something stands.
func widen(v reflect.Value) {
	switch v.Kind() {
	case reflect.Slice:
		n := v.Len()
		l := reflect.MakeSlice(v.Type(), n+20, n+20)
		reflect.Copy(l, v)
		for i := range n {
			widen(l.Index(i))
		}
		for i := range 20 {
			spoilSpare(l.Index(n + i))
		}
		v.Set(l.Slice(0, n))
	case reflect.Struct:
		for i := range v.NumField() {
			widen(v.Field(i))
		}
	}
}

// spoilSpare puts something that may not be into an item behind a list's end.
func spoilSpare(v reflect.Value) {
	switch v.Kind() {
	case reflect.Int:
		v.SetInt(-77)
	case reflect.String:
		v.SetString("spare")
	case reflect.Struct:
		for i := range v.NumField() {
			if v.Field(i).CanUint() {
				v.Field(i).SetUint(77)
			}
		}
	}
}

// picture is all that the lists of a value hold, spare room included.
func picture(v reflect.Value) string {
	switch v.Kind() {
	case reflect.Slice:
		out := fmt.Sprint("[", v.Len(), "/", v.Cap(), ":")
		whole := v.Slice(0, v.Cap())
		for i := range whole.Len() {
			out += " " + picture(whole.Index(i))
		}
		return out + "]"
	case reflect.Struct:
		out := "{"
		for i := range v.NumField() {
			out += v.Type().Field(i).Name + picture(v.Field(i)) + " "
		}
		return out + "}"
	}
	return fmt.Sprintf("%#v", v.Interface())
}

// wide is a value in which each list has spare room.
func wide[T any](v T) T {
	widen(reflect.ValueOf(&v).Elem())
	return v
}

// holding does a call, and holds it to what P0.1 says of what is handed in: it is not changed.
func holding(t *testing.T, call string, do func(), handed ...any) {
	t.Helper()
	var before []string
	for _, v := range handed {
		before = append(before, picture(reflect.ValueOf(v)))
	}
	do()
	for i, v := range handed {
		if now := picture(reflect.ValueOf(v)); now != before[i] {
			t.Errorf("%s changed what it was handed:\n %s\n was %s", call, now, before[i])
		}
	}
}

// P0.1: no list of a member that is handed in is kept or changed, spare room included; an answer's lists are its own,
// no two of them in one place.
func TestMemory(t *testing.T) {
	later := with(follower(), func(p *api.Peer) {
		p.Term, p.Base, p.BaseTerm, p.Snap, p.Commit = 9, 5, 2, "more", 5
		p.Log = append(p.Log[1:3], api.Entry{Term: 9}, api.Entry{Term: 9, Kind: api.Seats, Members: []int{2, 3}})
		p.Members = []int{2, 3}
	})
	for name, from := range roles() {
		p, now := wide(copied(from)), wide(copied(later))
		holding(t, "Kept of "+name, func() {
			a, b := keep.Kept(p), keep.Kept(p)
			apart(t, "Kept of "+name, p, a, b)
		}, p)
		holding(t, "Diff from "+name, func() {
			a, e := keep.Diff(p, now)
			b, _ := keep.Diff(p, now)
			if e != api.OK || len(a) == 0 {
				t.Errorf("Diff from %s: %q, %v", name, a, e)
			}
			apart(t, "Diff from "+name, p, now, a, b)
		}, p, now)
		holding(t, "Save from "+name, func() {
			_, w := roomy(t, nOf(p))
			if e := keep.Save(w, p, now); e != api.OK {
				t.Errorf("Save from %s: %v", name, e)
			}
			if e := keep.Trim(w, now); e != api.OK {
				t.Errorf("Trim behind %s: %v", name, e)
			}
		}, p, now)
	}
}

// P0.1: of Fold and Load likewise, whatever the records do.
func TestMemoryOfFold(t *testing.T) {
	seats := api.Entry{Term: 6, Kind: api.Seats, Members: []int{1, 2}}
	for name, l := range map[string][]string{
		"no record":           nil,
		"an N":                {nOf(follower())},
		"an H":                {nOf(follower()), hOf(7, 0)},
		"a B with entries":    {nOf(follower()), bOf(5, 2, "s", 4)},
		"a B at a Seats":      {nOf(follower()), bOf(6, 3, "s", 4)},
		"a B with a gap":      {nOf(follower()), bOf(10, 3, "s", 4)},
		"a B at first":        {bOf(0, 0, "", 4)},
		"a C of Seats":        {nOf(follower()), cOf(6)},
		"a C behind them":     {nOf(follower()), cOf(7)},
		"an E":                {nOf(follower()), eOf(9, api.Entry{Term: 6})},
		"an E of Seats":       {nOf(follower()), eOf(9, seats), eOf(10, seats)},
		"Seats at first":      {hOf(6, 0), eOf(1, seats)},
		"Seats cut and again": {hOf(6, 0), eOf(1, seats), eOf(2, seats), cOf(2), eOf(2, seats), bOf(1, 6, "", 1, 2)},
	} {
		records, members := wide(l), wide([]int{1, 2, 3})
		_, w := roomy(t, l...)
		holding(t, name, func() {
			a, n, e := keep.Fold(2, 10, members, records...)
			b, _, _ := keep.Fold(2, 10, members, records...)
			c, f := keep.Load(w, 2, 10, members...)
			d, _ := keep.Load(w, 2, 10, members...)
			if e != api.OK || f != api.OK || n != len(l) || !equal(a, c) {
				t.Errorf("%s: %d, %v, %v", name, n, e, f)
			}
			apart(t, name, a, b, c, d, members, records)
		}, records, members)
	}
}

// P0.1: what a caller does to an answer, or to what it handed in, changes nothing for the other one.
func TestMemoryApart(t *testing.T) {
	p := follower()
	q := keep.Kept(p)
	q.Members[0], q.BaseMembers[0], q.Log[0].Data, q.Log[1].Members[0] = 9, 9, "changed", 9
	if !equal(p, follower()) {
		t.Errorf("what was handed in: %+v", p)
	}
	q = keep.Kept(p)
	p.Members[0], p.BaseMembers[0], p.Log[0].Data, p.Log[1].Members[0] = 9, 9, "changed", 9
	if !equal(q, wordsKept(follower())) {
		t.Errorf("what was answered: %+v", q)
	}
	members := []int{1, 2, 3}
	q, _, e := keep.Fold(2, 10, members)
	members[0] = 2
	if e != api.OK || !equal(q, fresh()) {
		t.Errorf("what was answered of members: %+v, %v", q, e)
	}
	_, w := roomy(t, nOf(follower()))
	q, e = keep.Load(w, 2, 10, 1, 2, 3)
	if e != api.OK {
		t.Fatal(e)
	}
	q.Members[0], q.BaseMembers[0], q.Log[0].Data, q.Log[1].Members[0] = 9, 9, "changed", 9
	loads(t, "behind a change of what was loaded", w, follower())
}
