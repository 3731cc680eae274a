package apply

import (
	"slices"
	"strings"

	"tessera/api"
	"tessera/code"
)

// Command is the bytes of a client's command.
func Command(client, seq uint64, data string) (string, api.Errno) {
	if client == 0 || seq == 0 {
		return "", api.ErrArg
	}
	s := code.Num(client) + code.Num(seq) + code.Text(data)
	if len(s) > api.MaxRecord {
		return "", api.ErrLong
	}
	return s, api.OK
}

// ReadCommand is the command whose bytes s is.
func ReadCommand(s string) (client, seq uint64, data string, e api.Errno) {
	num, text, ended := reader(s)
	client, seq, data = num(), num(), text()
	if !ended() || client == 0 || seq == 0 || len(s) > api.MaxRecord {
		return 0, 0, "", api.ErrCommand
	}
	return client, seq, data, api.OK
}

// Bytes is all of a loop as bytes, its state as the caller has it.
func (l *Loop[S]) Bytes(state func(S) string) (string, api.Errno) {
	switch {
	case l.gone():
		return "", api.ErrNil
	case state == nil:
		return "", api.ErrArg
	}
	var out strings.Builder
	out.WriteString(code.Num(l.index))
	out.WriteString(code.Num(uint64(len(l.clients))))
	for _, client := range rising(l.clients) {
		last := l.clients[client]
		out.WriteString(code.Num(client) + code.Num(last.seq) + code.Text(last.answer))
	}
	out.WriteString(code.Text(state(l.state)))
	return out.String(), api.OK
}

// rising is the clients' numbers in order.
func rising(clients map[uint64]told) []uint64 {
	out := make([]uint64, 0, len(clients))
	for client := range clients {
		out = append(out, client)
	}
	slices.Sort(out)
	return out
}

// Read is the loop whose bytes s is, with that step.
func Read[S any](s string, state func(string) (S, bool), step func(S, string) (S, string)) (*Loop[S], api.Errno) {
	if state == nil || step == nil {
		return nil, api.ErrArg
	}
	num, text, ended := reader(s)
	index := num()
	clients, may := readClients(num, text)
	bytes := text()
	if !may || !ended() {
		return nil, api.ErrArg
	}
	made, may := state(bytes)
	if !may {
		return nil, api.ErrArg
	}
	return &Loop[S]{state: made, step: step, index: index, clients: clients}, api.OK
}

// readClients takes how many clients there are, and each, and says whether they may be. However many there are said to
// be, it ends with the bytes: behind these num tells 0, which no client is.
func readClients(num func() uint64, text func() string) (map[uint64]told, bool) {
	clients := map[uint64]told{}
	before := uint64(0)
	for range num() {
		client, last := num(), told{num(), text()}
		if client <= before || last.seq == 0 {
			return nil, false
		}
		clients[client] = last
		before = client
	}
	return clients, true
}

// reader is what takes a number, and a text, from the front of what is left of s, and what says whether nothing is left
// and all was there. Behind the first fault there are only zero values.
func reader(s string) (num func() uint64, text func() string, ended func() bool) {
	fault := api.OK
	num = func() (x uint64) {
		if fault == api.OK {
			x, s, fault = code.ReadNum(s)
		}
		return x
	}
	text = func() (t string) {
		if fault == api.OK {
			t, s, fault = code.ReadText(s)
		}
		return t
	}
	ended = func() bool { return fault == api.OK && s == "" }
	return num, text, ended
}
