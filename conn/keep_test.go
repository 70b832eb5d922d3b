package conn_test

import (
	"bytes"
	"slices"
	"testing"

	"heddle/api"
	"heddle/conn"
)

// overwrite writes over bytes, what lies unused behind them too.
func overwrite(b []byte) {
	for i := range b[:cap(b)] {
		b[:cap(b)][i] = '#'
	}
}

// handed does a call with memory of its own, which is not changed by it, and then writes over that.
func handed(t testing.TB, x *conn.Table, s step) ([]api.Hap, error) {
	t.Helper()
	given := append(slices.Clone(s.bytes), "room"...)
	g := s
	g.bytes = given[:len(s.bytes)]
	haps, err := g.perform(x)
	if string(given) != string(s.bytes)+"room" {
		t.Fatalf("%v changes what it is given", s)
	}
	overwrite(given)
	return haps, err
}

// scribble writes over all that was told, one behind the other: each stays as it is till it is written over itself.
func scribble(t testing.TB, haps []api.Hap) {
	t.Helper()
	want := tell(haps)
	were := slices.Clone(haps)
	for i := range were {
		were[i].Bytes = slices.Clone(haps[i].Bytes)
	}
	for i, h := range haps {
		if !sameHap(h, were[i]) {
			t.Fatalf("parts of an answer share memory: %s was %s", tell(haps), want)
		}
		overwrite(h.Bytes)
	}
	clear(haps[:cap(haps)])
}

// calls are some in which everything is handed in that may be, and everything is told.
func calls() []step {
	var all []step
	for _, words := range [][]string{
		{"connect", "b@h", "0"}, {"send", "b@h", "one", "0"}, {"send", "b@h", "two", "0"}, {"opened", "b@h", "1", "0"}, {"come", "1", "status:ok,challenge:b@h:3", "0"},
		{"send", "b@h", "three", "0"}, {"come", "1", "ack:#1,body:half,raw:\x00\x00\x00\x05he", "0"}, {"send", "b@h", "four", "0"}, {"come", "1", "raw:ddl", "0"}, {"come", "1", "raw:e,body:x,tick", "0"},
		{"accept", "2", "0"}, {"come", "2", "name:z@h", "0"}, {"send", "z@h", "five", "0"}, {"come", "2", "reply:#2:4,body:y", "0"}, {"tick", "60"},
		{"accept", "3", "0"}, {"come", "3", "name:z@h", "0"}, {"send", "a@h", "six", "0"}, {"refused", "a@h"}, {"send", "a@h", "seven", "0"}, {"opened", "a@h", "4", "0"}, {"come", "4", "status:nok", "0"},
		{"accept", "5", "0"}, {"come", "5", "name:a@h", "0"}, {"come", "5", "reply:#5:9", "0"}, {"connect", "n@h", "0"}, {"opened", "n@h", "6", "0"}, {"accept", "7", "0"}, {"come", "7", "name:n@h", "0"},
		{"break", "n@h"}, {"closed", "5"}, {"tick", "240"}, {"connect", "b@h", "0"}, {"break", "b@h"}, {"accept", "8", "0"}, {"come", "8", "name:b@h", "0"}, {"come", "8", "reply:#8:9", "0"}, {"tick", "9000"},
	} {
		all = append(all, makeStep(words))
	}
	return all
}

// Rule 4: who writes over what was handed in, or over what was told, changes nothing in the table, whatever the call was.
func TestKeepsNothing(t *testing.T) {
	me := somebody("m@h")
	dirty, err := conn.New(me, cookie, seed)
	done(t, "New", err)
	me.Name, me.Flags, me.Creation = "x@h", 0, 0
	clean := open(t)
	met := map[api.HapKind]int{}
	for _, s := range calls() {
		want, wantErr := s.perform(clean)
		got, err := handed(t, dirty, s)
		if err != nil || wantErr != nil || !sameHaps(got, want) {
			t.Fatalf("%v: %s, %v, want %s, %v", s, tell(got), err, tell(want), wantErr)
		}
		for _, h := range got {
			met[h.Kind]++
		}
		scribble(t, got)
		if a, b := look(dirty), look(clean); a != b {
			t.Fatalf("%v: %s, want %s", s, a, b)
		}
	}
	for kind := api.YOpen; kind <= api.YFail; kind++ {
		if met[kind] == 0 {
			t.Errorf("nothing of kind %d happens", kind)
		}
	}
}

// Rule 4: one body that is sent twice is two, whether it waits or not; one that was handed in is not the one that is told.
func TestBodiesApart(t *testing.T) {
	x, y := played(t, toTrying), played(t, toUp)
	body := []byte("heddle")
	var told []api.Hap
	for range 2 {
		done(t, "Send", second(x.Send("b@h", body, 0)))
		haps, err := y.Send("b@h", body, 0)
		done(t, "Send", err)
		told = append(told, haps...)
	}
	if tell(told) != "send 1 body:heddle; send 1 body:heddle" {
		t.Fatal(tell(told))
	}
	scribble(t, told)
	if string(body) != "heddle" {
		t.Fatal(string(body))
	}
	overwrite(body)
	haps, err := x.Come(1, unpack("status:ok,challenge:b@h:3,ack:#1"), 0)
	if err != nil || tell(haps) != "send 1 reply:3:#1; up b@h; send 1 body:heddle; send 1 body:heddle" {
		t.Fatal(tell(haps), err)
	}
	scribble(t, haps)
}

// Rule 4: frames that came in one call, and those of which the reader held a piece, are apart from one another and from what was handed in.
func TestFramesApart(t *testing.T) {
	x := played(t, toUp)
	b := unpack("body:one,body:two,raw:\x00\x00\x00\x06hed")
	haps, err := x.Come(1, b, 0)
	if err != nil || tell(haps) != "frame b@h:one; frame b@h:two" {
		t.Fatal(tell(haps), err)
	}
	for i := range haps {
		_ = append(haps[i].Bytes, "and more"...)
	}
	scribble(t, haps)
	if !bytes.Equal(b, unpack("body:one,body:two,raw:\x00\x00\x00\x06hed")) {
		t.Errorf("%q", b)
	}
	overwrite(b)
	play(t, x, "come 1 raw:dle 0 -> frame b@h:heddle")
}

// Rule 4: lists that are asked for are new memory each time; the peer that Conn tells is a copy.
func TestListsApart(t *testing.T) {
	x := ready(t)
	before := look(x)
	for range 2 {
		up, streams, known := x.Up(), x.Streams(), x.Conn("z@h")
		if len(up) != 1 || len(streams) != 4 || known.State != api.ConnUp {
			t.Fatal(before)
		}
		other, others := x.Up(), x.Streams()
		for i := range up[:cap(up)] {
			up[:cap(up)][i] = "scribbled"
		}
		for i := range streams[:cap(streams)] {
			streams[:cap(streams)][i] = -5
		}
		known.Peer.Name, known.Stream = "scribbled", -5
		if other[0] != "z@h" || !slices.Equal(others, []int{1, 2, 3, 4}) || look(x) != before {
			t.Errorf("%v, %v, %s", other, others, look(x))
		}
	}
	unchanged(t, x)
}

// Rule 5: two tables know nothing of one another; what one was told is not the other's, not even of one seed.
func TestTwoTables(t *testing.T) {
	x, y := played(t, toUp), open(t)
	before := look(x)
	play(t, y, "accept 1 0 ->\n closed 1 ->\n connect b@h 0 -> open b@h\n refused b@h -> fail b@h")
	if look(x) != before {
		t.Error(look(x))
	}
	play(t, y, "accept 1 0 ->\n come 1 name:b@h 0 -> send 1 status:ok; send 1 challenge:m@h:#2")
	play(t, x, "accept 2 0 ->\n come 2 name:z@h 0 -> send 2 status:ok; send 2 challenge:m@h:#2")
}
