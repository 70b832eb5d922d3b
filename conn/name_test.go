package conn_test

import (
	"strings"
	"testing"

	"heddle/api"
)

// told is what a name's teller is told.
const answered = "send 2 status:ok; send 2 challenge:m@h:#2"

// P21.5, point 3: a name that a stranger has told, in each state of that node: what is told is sent ahead of a YClose, what waits goes on waiting.
func TestNameInEachState(t *testing.T) {
	// m@h is above b@h: where both try, its own attempt goes on.
	for _, c := range []struct{ way, want, state string }{
		{toWanted, strings.ReplaceAll(answered, "#2", "#1"), "taken 2 2 0"},
		{toTrying, "send 2 status:nok; close 2", "trying 1 2 0"},
		{toTrying + "come 1 status:ok 0 ->\n", "send 2 status:nok; close 2", "trying 1 2 0"},
		{toTrying + "come 1 status:ok_simultaneous,challenge:b@h:3 0\n", "send 2 status:nok; close 2", "trying 1 2 0"},
		{toAwaited, answered, "taken 2 2 0"},
		{toTaken, answered + "; close 1", "taken 2 2 0"},
		{toWished, answered + "; close 1", "taken 2 2 0"},
	} {
		x := played(t, c.way+"send b@h x 0 ->\n send b@h y 0 ->\n accept 2 10 ->\n come 2 name:b@h 10 -> "+c.want+"\n conn b@h -> "+c.state)
		if !strings.HasPrefix(c.state, "taken") {
			play(t, x, "streams -> 1\n come 2 - 10 -> !7")
			continue
		}
		play(t, x, "streams -> 2")
		reply := "reply:#2:3"
		if c.way == toWanted {
			reply = "reply:#1:3"
		}
		play(t, x, "come 2 "+reply+" 10 -> send 2 ack:3; up b@h; send 2 body:x; send 2 body:y")
	}
	for _, way := range []string{toUp, toOwn} {
		played(t, way+`
			accept 2 10 ->
			come 2 name:b@h 10 -> send 2 status:alive; close 2
			conn b@h -> up 1 0 1 b@h
			streams -> 1
			come 1 body:x 10 -> frame b@h:x
		`)
	}
	// Nobody wished it: it is taken all the same, and its end is told to nobody.
	played(t, toTaken+"conn b@h -> taken 1 0 0\n closed 1 ->\n conn b@h -> none 0 0 0")
}

// P21.5, point 3: both try: of two names the greater one's attempt goes on, by the order of atoms: `-`, digits, `@`, letters.
func TestBothTry(t *testing.T) {
	for name, above := range map[string]bool{"a@h": true, "l@z": true, "m@g": true, "m-@h": true, "M@h": true, "0@h": true, "m-z@h": true, "n@h": false, "m@i": false, "mm@h": false, "m@h.": false, "m@hh": false, "_@h": true, "z@a": false} {
		calls := "connect NAME 0 -> open NAME\n send NAME x 0 ->\n opened NAME 1 5 -> send 1 name:m@h\n accept 2 0 ->\n"
		if above {
			calls += `
				come 2 name:NAME 10 -> send 2 status:nok; close 2
				conn NAME -> trying 1 1 0
				tick 244 ->
				come 1 status:ok_simultaneous,challenge:NAME:3,ack:#1 10 -> send 1 reply:3:#1; up NAME; send 1 body:x
				streams -> 1
			`
		} else {
			calls += `
				come 2 name:NAME 10 -> send 2 status:ok_simultaneous; send 2 challenge:m@h:#2; close 1
				conn NAME -> taken 2 1 0
				come 1 - 0 -> !7
				tick 249 ->
				come 2 reply:#2:3 10 -> send 2 ack:3; up NAME; send 2 body:x
				streams -> 2
			`
		}
		played(t, strings.ReplaceAll(calls, "NAME", name))
	}
}

// Whoever was wished is wished still when another's attempt takes over, and whoever was not is not: that shows at its end.
func TestWishedIfItWas(t *testing.T) {
	take := "accept 2 0 ->\n come 2 name:NAME 0\n conn NAME -> taken 2 0 0\n"
	for _, c := range []struct{ way, name, end string }{
		{toNone, "b@h", ""},
		{toTaken, "b@h", ""},
		{toWanted, "b@h", "fail b@h"},
		{toAwaited, "b@h", "fail b@h"},
		{toWished, "b@h", "fail b@h"},
		{"connect z@h 0 -> open z@h\n opened z@h 1 0 -> send 1 name:m@h\n", "z@h", "fail z@h"},
		{toTaken + "accept 3 0 ->\n come 3 name:b@h 0\n", "b@h", ""},
		{toWished + "accept 3 0 ->\n come 3 name:b@h 0\n", "b@h", "fail b@h"},
		// Another one is wished.
		{"connect z@h 0 -> open z@h\n", "b@h", ""},
	} {
		x := played(t, c.way+strings.ReplaceAll(take, "NAME", c.name))
		play(t, x, "closed 2 -> "+c.end+"\n conn "+c.name+" -> none 0 0 0\n streams ->")
	}
}

// When another stream takes over, its time begins with its name, not with the other one's, nor when it was accepted.
func TestSinceTheName(t *testing.T) {
	for _, way := range []string{toNone, toWanted, toAwaited, toTaken} {
		x := played(t, way+"accept 2 0 ->\n come 2 name:b@h 100\n tick 339 ->\n conn b@h -> taken 2 0 0")
		end := "close 2"
		if way == toWanted || way == toAwaited {
			end += "; fail b@h"
		}
		play(t, x, "tick 340 -> "+end+"\n conn b@h -> none 0 0 0")
	}
}

// P21.5, point 3: who may not take part is told so whatever the state of that name is: flags that lack, no creation, this node's own name. Nothing else happens to anybody.
func TestNotAllowed(t *testing.T) {
	for state, way := range ways() {
		for _, p := range []api.Peer{
			{Name: "b@h", Flags: api.FlagsNeeded &^ 4, Creation: 1}, {Name: "b@h", Flags: 0, Creation: 1}, {Name: "b@h", Flags: api.FlagsNeeded, Creation: 0}, {Name: "b@h"},
			{Name: "m@h", Flags: api.FlagsNeeded, Creation: 7}, {Name: "m@h", Flags: api.FlagsNeeded, Creation: 1}, {Name: "m@h"},
			{Name: "z@h", Flags: api.FlagsNeeded - 1, Creation: 1}, {Name: "z@h", Flags: ^uint64(0x100000000), Creation: 1},
		} {
			x := played(t, way+"connect z@h 0 -> open z@h\n opened z@h 5 0 -> send 5 name:m@h")
			before := look(x)
			does(t, x, step{call: "accept", stream: 2}, "")
			hello := message(api.Shake{Kind: api.HName, Flags: p.Flags, Creation: p.Creation, Name: p.Name})
			does(t, x, step{call: "come", stream: 2, bytes: append(hello, unpack("reply:#2:3")...)}, "send 2 status:not_allowed; close 2")
			if after := look(x); after != before {
				t.Errorf("%s: %+v: %s was %s", state, p, after, before)
			}
		}
	}
}

// A name that is none is no message: nobody is told anything but that the stream is to be closed.
func TestNoName(t *testing.T) {
	for _, name := range []string{"", "b", "b@", "b@h@h", "b h@h", strings.Repeat("b", 63) + "@h"} {
		body := append([]byte("N\x00\x00\x00\x01\x03\x05\x01\x0c\x00\x00\x00\x01"), 0, byte(len(name)))
		x := played(t, "accept 2 0 ->")
		does(t, x, step{call: "come", stream: 2, bytes: framed(2, append(body, name...))}, "close 2")
	}
	// But for the name it would have been right.
	body := append([]byte("N\x00\x00\x00\x01\x03\x05\x01\x0c\x00\x00\x00\x01\x00\x03"), "b@h"...)
	does(t, played(t, "accept 2 0 ->"), step{call: "come", stream: 2, bytes: framed(2, body)}, "send 2 status:ok; send 2 challenge:m@h:#1")
}

// Several strangers tell one name: the last one is the node's; several names are several nodes.
func TestSeveralStrangers(t *testing.T) {
	played(t, `
		accept 1 0 ->
		accept 2 0 ->
		accept 3 0 ->
		accept 4 0 ->
		come 2 name:b@h 0 -> send 2 status:ok; send 2 challenge:m@h:#2
		come 4 name:z@h 0 -> send 4 status:ok; send 4 challenge:m@h:#4
		come 1 name:b@h 0 -> send 1 status:ok; send 1 challenge:m@h:#1; close 2
		streams -> 1 3 4
		come 1 reply:#1:5 0 -> send 1 ack:5; up b@h
		come 3 name:b@h 0 -> send 3 status:alive; close 3
		come 4 reply:#4:6 0 -> send 4 ack:6; up z@h
		up -> b@h z@h
		streams -> 1 4
		come 4 body:x 0 -> frame z@h:x
		come 1 body:y 0 -> frame b@h:y
	`)
}

// Behind the name's answer, and behind the end of another one's attempt, a node may be called as if nothing had been.
func TestCalledBehindAnother(t *testing.T) {
	played(t, toTaken+`
		closed 1 ->
		connect b@h 0 -> open b@h
		opened b@h 1 0 -> send 1 name:m@h
		come 1 status:ok,challenge:b@h:3,ack:#2 0 -> send 1 reply:3:#2; up b@h
		conn b@h -> up 1 0 1 b@h
	`)
	// A stream that was wanted comes too late: the other one's is there.
	played(t, toWanted+"accept 1 0 ->\n come 1 name:b@h 0\n opened b@h 2 0 -> !420\n refused b@h -> !420\n come 1 reply:#1:3 0 -> send 1 ack:3; up b@h\n opened b@h 2 0 -> !420")
}
