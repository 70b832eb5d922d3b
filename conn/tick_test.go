package conn_test

import (
	"strconv"
	"strings"
	"testing"
)

// P21.7: each state, just below 4 T and at it, since its beginning at the time 0.
func TestTickInEachState(t *testing.T) {
	for name, s := range all() {
		x := played(t, s.way+"tick 0 ->\n tick 59 ->")
		if strings.HasPrefix(name, "up") {
			continue
		}
		play(t, x, "tick 60 ->\n tick 61 ->\n tick 120 ->\n tick 239 ->")
		before := look(x)
		if name == "none" || name == "wanted" {
			play(t, x, "tick 240 ->\n tick 1099511627776 ->")
			if after := look(x); after != before {
				t.Errorf("%s: %s was %s", name, after, before)
			}
			continue
		}
		play(t, x, "tick 240 -> "+s.closing()+"\n"+s.gone())
	}
	// Later than at 4 T is as at it.
	for name, s := range all() {
		if name != "none" && name != "wanted" {
			played(t, s.way+"tick 241 -> "+s.closing()+"\n"+s.gone())
			played(t, s.way+"tick 1099511627776 -> "+s.closing()+"\n"+s.gone())
		}
	}
}

// P21.7: of ConnUp: a tick at T since something was sent, an end at 4 T since something has come: that is told alone.
func TestTickOfWhoIsUp(t *testing.T) {
	for _, way := range []string{toUp, toOwn} {
		played(t, way+`
			tick 59 ->
			tick 60 -> send 1 tick
			tick 60 ->
			tick 119 ->
			tick 120 -> send 1 tick
			tick 200 -> send 1 tick
			tick 239 ->
			tick 240 -> close 1; down b@h
			tick 300 ->
		`)
		// What is sent puts the tick off, and what comes the end.
		played(t, way+`
			send b@h x 50 -> send 1 body:x
			tick 60 ->
			tick 109 ->
			tick 110 -> send 1 tick
			come 1 tick 150 ->
			tick 169 ->
			tick 170 -> send 1 tick
			come 1 - 200 ->
			tick 240 -> send 1 tick
			come 1 body:y 210 -> frame b@h:y
			tick 300 -> send 1 tick
			come 1 raw:! 230 ->
			tick 449 -> send 1 tick
			tick 469 ->
			tick 470 -> close 1; down b@h
		`)
		// No bytes, and bytes that are no whole frame, have come as well.
		played(t, way+"come 1 - 100 ->\n tick 339 -> send 1 tick\n tick 340 -> close 1; down b@h")
		played(t, way+"come 1 raw:! 100 ->\n tick 339 -> send 1 tick\n tick 340 -> close 1; down b@h")
		// Connect sends nothing, and is no sign of the other one.
		played(t, way+"connect b@h 59 ->\n tick 60 -> send 1 tick\n connect b@h 239 ->\n tick 240 -> close 1; down b@h")
		// To send is no sign of the other one either, and what comes is nothing that is sent.
		played(t, way+"send b@h x 239\n tick 240 -> close 1; down b@h")
		played(t, way+"come 1 body:x 59\n tick 60 -> send 1 tick")
	}
}

// P21.7: sent and come begin when the node comes up, not when its stream began; what waits is sent then.
func TestTimesOfUp(t *testing.T) {
	for _, wait := range []string{"", "send b@h x 0\n"} {
		played(t, toTrying+wait+`
			come 1 status:ok,challenge:b@h:3 100
			come 1 ack:#1 200
			tick 259 ->
			tick 260 -> send 1 tick
			tick 439 -> send 1 tick
			tick 440 -> close 1; down b@h
		`)
		played(t, toTaken+wait+`
			come 1 reply:#1:3 200
			tick 259 ->
			tick 260 -> send 1 tick
			tick 439 -> send 1 tick
			tick 440 -> close 1; down b@h
		`)
	}
}

// P21.7: of a handshake the time of its beginning counts, not what comes in it: an attempt since Opened, another one's since its name, nok since it came, a stranger since Accept.
func TestSince(t *testing.T) {
	played(t, "connect b@h 0\n opened b@h 1 100\n come 1 status:ok 300\n come 1 challenge:b@h:3 339\n tick 339 ->\n tick 340 -> close 1; fail b@h")
	played(t, "accept 1 0\n come 1 name:b@h 100\n come 1 raw:\x00 339 ->\n tick 339 ->\n tick 340 -> close 1")
	played(t, toTrying+"come 1 status:nok 200 -> close 1\n connect b@h 400\n send b@h x 400\n tick 439 ->\n tick 440 -> fail b@h")
	played(t, "accept 1 100\n come 1 raw:\x00 339 ->\n tick 339 ->\n tick 340 -> close 1")
}

// P21.7: strangers, just below 4 T and at it.
func TestTickOfStrangers(t *testing.T) {
	played(t, `
		accept 7 0 ->
		accept 3 1 ->
		accept 5 0 ->
		tick 60 ->
		tick 239 ->
		streams -> 3 5 7
		tick 240 -> close 5; close 7
		streams -> 3
		tick 240 ->
		tick 241 -> close 3
		streams ->
		accept 7 300 ->
		tick 539 ->
		tick 540 -> close 7
	`)
}

// P21.7: several nodes, by their names, whenever and on whatever streams they began, and then the strangers, by their streams.
func TestTickInOrder(t *testing.T) {
	way := `
		accept 20 0 ->
		accept 3 0 ->
		connect z@h 0
		opened z@h 1 0
		connect c@h 0
		opened c@h 9 0
		come 9 status:nok 0
		accept 8 0
		come 8 name:b@h 0
		connect d@h 0
		connect a@h 0
		opened a@h 12 0
		come 12 status:ok,challenge:a@h:3,ack:#6 0
		connect e@h 0
		opened e@h 30 0
		come 30 status:ok,challenge:e@h:3,ack:#7 0
		accept 1099 0
		come 1099 name:A@h 0
		accept 100 0 ->
	`
	played(t, way+`
		come 30 tick 50 ->
		tick 60 -> send 12 tick; send 30 tick
		tick 240 -> close 1099; close 12; down a@h; close 8; fail c@h; send 30 tick; close 1; fail z@h; close 3; close 20; close 100
		streams -> 30
		up -> e@h
		conn d@h -> wanted 0 0 0
		conn c@h -> none 0 0 0
		tick 290 -> close 30; down e@h
		tick 999 ->
	`)
	// The order of names is that of atoms.
	played(t, `
		accept 1 0
		come 1 name:b@h 0
		accept 2 0
		come 2 name:b-@h 0
		accept 3 0
		come 3 name:B@h 0
		accept 4 0
		come 4 name:b_@h 0
		accept 5 0
		come 5 name:bb@h 0
		accept 6 0
		come 6 name:b0@h 0
		accept 7 0
		come 7 name:b@h.x 0
		tick 240 -> close 3; close 2; close 6; close 1; close 7; close 4; close 5
	`)
}

// Times are not asked to rise: what is earlier than the last call is as any other time.
func TestTimesNeedNotRise(t *testing.T) {
	played(t, toUp+`
		send b@h x 500 -> send 1 body:x
		come 1 tick 500 ->
		tick 0 ->
		tick 559 ->
		tick 560 -> send 1 tick
		send b@h x 10 -> send 1 body:x
		tick 69 ->
		tick 70 -> send 1 tick
		tick 739 -> send 1 tick
		come 1 tick 20 ->
		tick 259 ->
		tick 260 -> close 1; down b@h
	`)
	played(t, "accept 1 500 ->\n tick 0 ->\n tick 739 ->\n tick 100 ->\n tick 740 -> close 1")
	played(t, "connect b@h 500\n opened b@h 1 300\n come 1 status:nok 100\n tick 0 ->\n tick 339 ->\n tick 340 -> fail b@h")
	played(t, "accept 1 500 ->\n come 1 name:b@h 100\n tick 0 ->\n tick 339 ->\n tick 340 -> close 1")
}

// The greatest times.
func TestLastTimes(t *testing.T) {
	last := strconv.Itoa(1 << 40)
	played(t, strings.ReplaceAll(toUp, " 0 ->", " 1099511627536 ->")+"tick 1099511627775 -> send 1 tick\n tick "+last+" -> close 1; down b@h")
}
