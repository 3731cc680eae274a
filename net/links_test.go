package net_test

import (
	"math"
	"slices"
	"strconv"
	"strings"
	"testing"

	"tessera/api"
	"tessera/net"
)

// P9.1: ErrArg of a number that no machine has, on either side; nothing is sent then.
func TestSendNoMachine(t *testing.T) {
	for _, nodes := range []int{1, 2, api.MaxNodes} {
		n, w := made(t, nodes, 1)
		for _, pair := range noPairs(nodes) {
			if e := n.Send(pair[0], pair[1], "x"); e != api.ErrArg {
				t.Errorf("Send(%d, %d) of %d machines: %v", pair[0], pair[1], nodes, e)
			}
		}
		agree(t, n, w)
	}
}

// P9.1: what is sent is the last one of its link, and of no other; from a machine to itself too.
func TestSend(t *testing.T) {
	n, w := made(t, 3, 1)
	for i, pair := range [][2]int{{1, 2}, {2, 1}, {1, 2}, {3, 3}, {1, 3}, {3, 3}, {1, 1}, {1, 2}} {
		sends(t, n, w, packet(pair[0], pair[1], strconv.Itoa(i)))
		last := n.Len(pair[0], pair[1]) - 1
		if got, e := n.Peek(pair[0], pair[1], last); got != strconv.Itoa(i) || e != api.OK {
			t.Errorf("the last one from %d to %d: %q, %v", pair[0], pair[1], got, e)
		}
		agree(t, n, w)
	}
	if p, e := n.Take(3, 3, 1); p != packet(3, 3, "5") || e != api.OK {
		t.Errorf("Take(3, 3, 1): %v, %v", p, e)
	}
	parts(t, n, w, 1)
	if e := n.Send(1, 2, "parted"); e != api.OK {
		t.Errorf("Send between two that are parted: %v", e)
	}
}

// P9.1: bytes are any, none too; MaxPacket is allowed, one more is ErrLong.
func TestSendBytes(t *testing.T) {
	n, w := made(t, 2, 1)
	most := strings.Repeat("\xff", api.MaxPacket)
	for i, bytes := range []string{"", "\x00", "\xff\xfe", "a\nb", most, ""} {
		sends(t, n, w, packet(1, 2, bytes))
		if got, e := n.Peek(1, 2, i); got != bytes || e != api.OK {
			t.Errorf("%d bytes: %d, %v", len(bytes), len(got), e)
		}
	}
	for _, long := range []string{most + "x", most + most} {
		if e := n.Send(1, 2, long); e != api.ErrLong {
			t.Errorf("Send of %d bytes: %v", len(long), e)
		}
	}
	if n.Len(1, 2) != 6 || len(n.Waiting()) != 6 {
		t.Errorf("ErrLong sent something: %d", n.Len(1, 2))
	}
	if p, e := n.Take(1, 2, 4); p.Bytes != most || e != api.OK {
		t.Errorf("Take of MaxPacket bytes: %d, %v", len(p.Bytes), e)
	}
}

// full is a net with so many messages, over several links.
func full(t *testing.T, count int) *net.Net {
	t.Helper()
	n, _ := made(t, 3, 1)
	for i := range count {
		if e := n.Send(i%3+1, i%2+1, "x"); e != api.OK {
			t.Fatalf("message %d: %v", i, e)
		}
	}
	return n
}

// P9.1, P9.2: MaxFlight bounds the messages of all links together, by Send as by Double; what goes out makes room.
func TestFlight(t *testing.T) {
	for _, add := range []func(n *net.Net) api.Errno{
		func(n *net.Net) api.Errno { return n.Send(1, 1, "y") },
		func(n *net.Net) api.Errno { return n.Send(3, 3, "") },
		func(n *net.Net) api.Errno { return n.Double(1, 1, 0) },
	} {
		n := full(t, api.MaxFlight-1)
		if e := add(n); e != api.OK {
			t.Errorf("one below MaxFlight: %v", e)
		}
		before := n.Waiting()
		if e := add(n); e != api.ErrFull {
			t.Errorf("at MaxFlight: %v", e)
		}
		if got := n.Waiting(); len(got) != api.MaxFlight || !slices.Equal(got, before) {
			t.Errorf("ErrFull changed %d messages to %d", len(before), len(got))
		}
		if e := n.Copy().Send(2, 2, "y"); e != api.ErrFull {
			t.Errorf("a copy at MaxFlight: %v", e)
		}
		for _, free := range []func() api.Errno{
			func() api.Errno { return n.Drop(1, 1, 0) },
			func() api.Errno { _, e := n.Take(1, 2, 5); return e },
		} {
			if e := free(); e != api.OK {
				t.Fatalf("a message goes out: %v", e)
			}
			if e, f := add(n), add(n); e != api.OK || f != api.ErrFull {
				t.Errorf("behind one that went out: %v, %v", e, f)
			}
		}
	}
}

// P9.1, P9.2: MaxFlight messages of one link go out by the end, by the midst and by the front.
func TestFlightOfOneLink(t *testing.T) {
	n, _ := made(t, 1, 1)
	for i := range api.MaxFlight {
		n.Send(1, 1, strconv.Itoa(i))
	}
	want := func(p api.Packet, e api.Errno, i int) {
		if p != packet(1, 1, strconv.Itoa(i)) || e != api.OK {
			t.Fatalf("%v, %v, not %d", p, e, i)
		}
	}
	for i := range 100 {
		p, e := n.Take(1, 1, n.Len(1, 1)-1)
		want(p, e, api.MaxFlight-1-i)
		p, e = n.Take(1, 1, 1000)
		want(p, e, 1000+i)
	}
	for i := range 1000 {
		p, e := n.Take(1, 1, 0)
		want(p, e, i)
	}
	for i := 1100; i < api.MaxFlight-100; i++ {
		p, e := n.Take(1, 1, 0)
		want(p, e, i)
	}
	if n.Len(1, 1) != 0 || len(n.Waiting()) != 0 {
		t.Errorf("Len: %d, Waiting: %d", n.Len(1, 1), len(n.Waiting()))
	}
}

// places are calls that name the i-th message of a link; they tell its bytes where they tell anything.
func places(n *net.Net) map[string]func(from, to, i int) (string, api.Errno) {
	return map[string]func(from, to, i int) (string, api.Errno){
		"Peek": n.Peek,
		"Take": func(from, to, i int) (string, api.Errno) {
			p, e := n.Take(from, to, i)
			if e != api.OK && p != (api.Packet{}) {
				return "a packet beside an error", e
			}
			return p.Bytes, e
		},
		"Drop":   func(from, to, i int) (string, api.Errno) { return "", n.Drop(from, to, i) },
		"Double": func(from, to, i int) (string, api.Errno) { return "", n.Double(from, to, i) },
	}
}

// P9.2: ErrArg of no machine, whatever the place is; Len is 0 then.
func TestPlaceNoMachine(t *testing.T) {
	for _, nodes := range []int{1, 3, api.MaxNodes} {
		n, w := made(t, nodes, 1)
		sends(t, n, w, packet(1, 1, "a"), packet(1, nodes, "b"), packet(nodes, nodes, "c"))
		for name, call := range places(n) {
			for _, pair := range noPairs(nodes) {
				for _, i := range []int{0, -1, 1, math.MaxInt, math.MinInt} {
					if bytes, e := call(pair[0], pair[1], i); bytes != "" || e != api.ErrArg {
						t.Errorf("%s(%d, %d, %d): %q, %v", name, pair[0], pair[1], i, bytes, e)
					}
				}
				if got := n.Len(pair[0], pair[1]); got != 0 {
					t.Errorf("Len(%d, %d): %d", pair[0], pair[1], got)
				}
			}
		}
		agree(t, n, w)
	}
}

// P9.2: ErrNone of a place that the link does not have, on a link that never had a message, has none any more, or has some.
func TestPlaceNone(t *testing.T) {
	n, w := made(t, 3, 1)
	sends(t, n, w, packet(1, 2, "a"), packet(1, 2, "b"), packet(1, 2, "c"), packet(3, 1, "gone"))
	n.Drop(3, 1, 0)
	w.drop(3, 1, 0)
	for name, call := range places(n) {
		for _, i := range []int{3, 4, -1, -2, math.MaxInt, math.MinInt, 1 << 32} {
			if bytes, e := call(1, 2, i); bytes != "" || e != api.ErrNone {
				t.Errorf("%s(1, 2, %d): %q, %v", name, i, bytes, e)
			}
		}
		for _, pair := range [][2]int{{2, 1}, {3, 1}, {1, 1}, {2, 2}, {3, 2}} {
			for _, i := range []int{0, 1, -1, math.MaxInt, math.MinInt} {
				if bytes, e := call(pair[0], pair[1], i); bytes != "" || e != api.ErrNone {
					t.Errorf("%s(%d, %d, %d): %q, %v", name, pair[0], pair[1], i, bytes, e)
				}
			}
		}
	}
	agree(t, n, w)
}

// P9.2: what goes out of the front, the midst and the end leaves the others in their order, and all other links as they were.
func TestOut(t *testing.T) {
	letters := []string{"a", "b", "c", "d", "e"}
	for count := 1; count <= len(letters); count++ {
		for i := range count {
			for name := range places(nil) {
				n, w := made(t, 2, 1)
				for _, letter := range letters[:count] {
					sends(t, n, w, packet(1, 2, letter), packet(2, 1, "back"), packet(2, 2, "own"))
				}
				bytes, e := places(n)[name](1, 2, i)
				if told := name == "Take" || name == "Peek"; e != api.OK || told && bytes != letters[i] || !told && bytes != "" {
					t.Fatalf("%s(1, 2, %d) of %d: %q, %v", name, i, count, bytes, e)
				}
				switch name {
				case "Take", "Drop":
					w.drop(1, 2, i)
				case "Double":
					w.send(1, 2, letters[i])
				}
				agree(t, n, w)
				sends(t, n, w, packet(1, 2, "f"), packet(1, 2, "g"))
				agree(t, n, w)
			}
		}
	}
}

// P9.2: Take tells from whom and to whom, too.
func TestTakeTellsAll(t *testing.T) {
	n, w := made(t, 3, 1)
	sends(t, n, w, packet(3, 1, "a"), packet(1, 3, "b"), packet(2, 2, ""))
	for _, want := range []api.Packet{packet(1, 3, "b"), packet(2, 2, ""), packet(3, 1, "a")} {
		if p, e := n.Take(want.From, want.To, 0); p != want || e != api.OK {
			t.Errorf("Take: %v, %v, not %v", p, e, want)
		}
		if _, e := n.Take(want.From, want.To, 0); e != api.ErrNone {
			t.Errorf("Take of what was taken: %v", e)
		}
	}
}

// P9.2: Take of two that are parted is ErrState where the message is there, and ErrNone where it is not; the other calls go on.
func TestTakeParted(t *testing.T) {
	n, w := made(t, 3, 1)
	for _, from := range []int{1, 2, 3} {
		for _, to := range []int{1, 2, 3} {
			sends(t, n, w, packet(from, to, "a"), packet(from, to, "b"))
		}
	}
	parts(t, n, w, 2)
	for _, pair := range [][2]int{{1, 2}, {2, 1}, {3, 2}, {2, 3}} {
		for i, want := range map[int]api.Errno{0: api.ErrState, 1: api.ErrState, 2: api.ErrNone, -1: api.ErrNone} {
			if p, e := n.Take(pair[0], pair[1], i); p != (api.Packet{}) || e != want {
				t.Errorf("Take(%d, %d, %d): %v, %v, not %v", pair[0], pair[1], i, p, e, want)
			}
		}
		agree(t, n, w)
		if e, f := n.Double(pair[0], pair[1], 0), w.double(pair[0], pair[1], 0); e != api.OK || f != api.OK {
			t.Errorf("Double of two that are parted: %v", e)
		}
		if e, f := n.Drop(pair[0], pair[1], 1), w.drop(pair[0], pair[1], 1); e != api.OK || f != api.OK {
			t.Errorf("Drop of two that are parted: %v", e)
		}
		agree(t, n, w)
	}
	for _, pair := range [][2]int{{1, 1}, {2, 2}, {3, 3}, {1, 3}, {3, 1}} {
		if p, e := n.Take(pair[0], pair[1], 0); p != packet(pair[0], pair[1], "a") || e != api.OK {
			t.Errorf("Take(%d, %d) of two that are not parted: %v, %v", pair[0], pair[1], p, e)
		}
	}
}

// P9.1, P9.2: which error is told where several could be.
func TestFirstError(t *testing.T) {
	n := full(t, api.MaxFlight)
	n.Part(1)
	long := strings.Repeat("x", api.MaxPacket+1)
	_, take := n.Take(2, 1, api.MaxFlight)
	_, state := n.Take(2, 1, 0)
	_, none := n.Take(9, 1, -1)
	for _, one := range []struct {
		what      string
		got, want api.Errno
	}{
		{"Send to nobody of too much at MaxFlight", n.Send(1, 4, long), api.ErrArg},
		{"Send to nobody at MaxFlight", n.Send(0, 1, "x"), api.ErrArg},
		{"Send of too much at MaxFlight", n.Send(1, 2, long), api.ErrLong},
		{"Send at MaxFlight of MaxPacket bytes", n.Send(1, 2, long[1:]), api.ErrFull},
		{"Double of nobody's at MaxFlight", n.Double(1, 4, 0), api.ErrArg},
		{"Double of none at MaxFlight", n.Double(1, 3, 0), api.ErrNone},
		{"Double below 0 at MaxFlight", n.Double(1, 1, -1), api.ErrNone},
		{"Double at MaxFlight of two that are parted", n.Double(2, 1, 0), api.ErrFull},
		{"Take of none of two that are parted", take, api.ErrNone},
		{"Take of two that are parted", state, api.ErrState},
		{"Take of nobody's, below 0", none, api.ErrArg},
		{"Drop of nobody's, below 0", n.Drop(1, 9, -1), api.ErrArg},
		{"Drop of none of two that are parted", n.Drop(2, 1, -1), api.ErrNone},
	} {
		if one.got != one.want {
			t.Errorf("%s: %v, not %v", one.what, one.got, one.want)
		}
	}
}

// P9.2: Double lays one like it at the end, wherever the first one stands; the two go out apart.
func TestDouble(t *testing.T) {
	n, w := made(t, 2, 1)
	sends(t, n, w, packet(1, 2, "a"), packet(1, 2, "b"), packet(2, 1, "c"))
	for i, want := range []string{"aba", "abab", "ababa"} {
		if e := n.Double(1, 2, i); e != api.OK {
			t.Fatalf("Double(1, 2, %d): %v", i, e)
		}
		w.double(1, 2, i)
		if got := texts(n.Waiting()); got != want+"c" {
			t.Errorf("behind Double(1, 2, %d): %s, not %sc", i, got, want)
		}
		agree(t, n, w)
	}
	n.Drop(1, 2, 0)
	if p, e := n.Take(1, 2, 1); p.Bytes != "a" || e != api.OK {
		t.Errorf("the doubled one: %v, %v", p, e)
	}
}

// texts is the bytes of messages, one behind the other.
func texts(l []api.Packet) string {
	out := ""
	for _, p := range l {
		out += p.Bytes
	}
	return out
}

// P9.2: Waiting tells by from, by to, by their places, in whatever order they were sent; numbers go by their size.
func TestWaiting(t *testing.T) {
	n, w := made(t, 11, 1)
	if got := n.Waiting(); len(got) != 0 {
		t.Errorf("of none: %v", got)
	}
	sends(t, n, w, packet(11, 2, "z"))
	if got := n.Waiting(); !slices.Equal(got, []api.Packet{packet(11, 2, "z")}) {
		t.Errorf("of one: %v", got)
	}
	sends(t, n, w, packet(2, 10, "k"), packet(2, 9, "h"), packet(10, 1, "x"), packet(2, 9, "g"), packet(1, 11, "c"), packet(2, 9, "i"), packet(1, 2, "b"), packet(1, 1, "a"))
	want := []api.Packet{
		packet(1, 1, "a"), packet(1, 2, "b"), packet(1, 11, "c"), packet(2, 9, "h"), packet(2, 9, "g"), packet(2, 9, "i"),
		packet(2, 10, "k"), packet(10, 1, "x"), packet(11, 2, "z"),
	}
	if got := n.Waiting(); !slices.Equal(got, want) {
		t.Errorf("of several: %v", got)
	}
	parts(t, n, w, 2, 11)
	if got := n.Waiting(); !slices.Equal(got, want) {
		t.Errorf("of those that are parted: %v", got)
	}
}

// P9.2, P0.1: what Waiting tells is new memory, spare room included, at each call.
func TestWaitingIsNew(t *testing.T) {
	n, w := made(t, 3, 1)
	sends(t, n, w, packet(1, 2, "a"), packet(1, 2, "b"), packet(3, 1, "c"))
	told, other := n.Waiting(), n.Waiting()
	for i := range told {
		told[i] = packet(2, 2, "changed")
	}
	told = told[:cap(told)]
	for i := range told {
		told[i] = packet(3, 3, "spare")
	}
	if !slices.Equal(other, w.waiting()) {
		t.Errorf("one answer changed another: %v", other)
	}
	agree(t, n, w)
}

// P9.5: what is taken was sent, with those bytes, and is taken once, and as often again as it was doubled; parting and healing lose nothing.
func TestNothingLost(t *testing.T) {
	r := draws()
	for range 100 {
		n, _ := made(t, 4, 1)
		due, all := map[api.Packet]int{}, 0
		for i := range 80 {
			if e := n.Part(r.Intn(4)+1, r.Intn(4)+1); e != api.OK {
				t.Fatalf("Part: %v", e)
			}
			a, b := r.Intn(4)+1, r.Intn(4)+1
			p := packet(a, b, strconv.Itoa(i))
			if e := n.Send(a, b, p.Bytes); e != api.OK {
				t.Fatalf("Send: %v", e)
			}
			due[p]++
			all++
			twice := r.Intn(n.Len(a, b))
			bytes, _ := n.Peek(a, b, twice)
			if e := n.Double(a, b, twice); e != api.OK {
				t.Fatalf("Double: %v", e)
			}
			due[packet(a, b, bytes)]++
			all++
			a, b = r.Intn(4)+1, r.Intn(4)+1
			if p, e := n.Take(a, b, r.Intn(n.Len(a, b)+1)); e == api.OK {
				due[p]--
				all--
				if due[p] < 0 || n.Parted(a, b) {
					t.Fatalf("taken too often, or over a gap: %v", p)
				}
			}
		}
		n.Part()
		for _, p := range n.Waiting() {
			if got, e := n.Take(p.From, p.To, 0); got != p || e != api.OK {
				t.Fatalf("healed: %v, %v, not %v", got, e, p)
			}
			due[p]--
			all--
		}
		for p, left := range due {
			if left != 0 || all != 0 || len(n.Waiting()) != 0 {
				t.Fatalf("%v is due %d times still, %d are in all", p, left, all)
			}
		}
	}
}
