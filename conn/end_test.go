package conn_test

import (
	"strings"
	"testing"
)

// state is a way to one, with what its node's stream is, how its end is told, and of how many epochs it is.
type state struct {
	way, stream, told, epoch string
}

// all the states of b@h: where a body may wait, one does.
func all() map[string]state {
	wait := "send b@h x 0\n"
	return map[string]state{
		"none":              {toNone, "", "", "0"},
		"wanted":            {toWanted + wait, "", "fail b@h", "0"},
		"trying":            {toTrying + wait, "1", "fail b@h", "0"},
		"reached":           {toTrying + wait + "come 1 status:ok,challenge:b@h:3 0\n", "1", "fail b@h", "0"},
		"awaited":           {toAwaited + wait, "", "fail b@h", "0"},
		"taken":             {toTaken, "1", "", "0"},
		"wished":            {toTaken + wait, "1", "fail b@h", "0"},
		"wanted and taken":  {toWished + wait, "1", "fail b@h", "0"},
		"awaited and taken": {strings.Replace(toAwaited, "come", wait+"come", 1) + "accept 1 0 ->\n come 1 name:b@h 0\n", "1", "fail b@h", "0"},
		"up":                {toUp, "1", "down b@h", "1"},
		"up, own":           {toOwn, "1", "down b@h", "1"},
	}
}

// gone: nothing is left of b@h but its epochs, and all may begin again.
func (s state) gone() string {
	return "conn b@h -> none 0 0 " + s.epoch + "\n streams ->\n up ->\n break b@h ->\n tick 1099511627776 ->\n connect b@h 0 -> open b@h\n conn b@h -> wanted 0 0 " + s.epoch
}

// closing is what is told where the stream, if there is one, is closed by this node.
func (s state) closing() string {
	if s.stream == "" {
		return s.told
	}
	return strings.TrimSuffix("close "+s.stream+"; "+s.told, "; ")
}

// P21.6: Break in each state; what waits is dropped.
func TestBreak(t *testing.T) {
	for _, s := range all() {
		played(t, s.way+"break b@h -> "+s.closing()+"\n"+s.gone())
	}
	// Of others nothing.
	for _, s := range all() {
		x := played(t, s.way)
		before := look(x)
		play(t, x, "break a@h ->\n break z@h ->")
		if after := look(x); after != before {
			t.Errorf("%s was %s", after, before)
		}
	}
}

// P21.6: Closed in each state tells what is lost, but closes nothing.
func TestClosed(t *testing.T) {
	for _, s := range all() {
		if s.stream == "" {
			played(t, s.way+"closed 1 -> !7")
			continue
		}
		played(t, s.way+"closed 2 -> !7\n closed "+s.stream+" -> "+s.told+"\n closed "+s.stream+" -> !7\n come "+s.stream+" - 0 -> !7\n"+s.gone())
	}
}

// P21.6: of a stranger nothing is told but that its stream is to be closed, or, behind Closed, nothing at all; whatever it has sent of a name.
func TestStrangersEnd(t *testing.T) {
	for _, s := range all() {
		stranger := s.way + "accept 9 0 ->\n come 9 raw:\x00 0 ->\n"
		for _, end := range []string{"closed 9 ->", "come 9 raw:\x01! 0 -> close 9", "come 9 raw:\xff\xff 0 -> close 9"} {
			if strings.HasPrefix(end, "come 9 raw:\xff") {
				stranger = s.way + "accept 9 0 ->\n"
			}
			x := played(t, s.way)
			y := played(t, stranger+end+"\n closed 9 -> !7\n come 9 - 0 -> !7")
			if a, b := look(x), look(y); a != b {
				t.Errorf("%s was %s", b, a)
			}
		}
	}
}

// The end of one node's stream is nobody else's.
func TestEndOfOne(t *testing.T) {
	way := toUp + `
		accept 2 0 ->
		come 2 name:a@h 0
		come 2 reply:#2:4 0 -> send 2 ack:4; up a@h
		send z@h x 0 -> open z@h
		opened z@h 3 0 -> send 3 name:m@h
		send n@h x 0 -> open n@h
		accept 4 0 ->
	`
	played(t, way+`
		closed 1 -> down b@h
		up -> a@h
		streams -> 2 3 4
		conn z@h -> trying 3 1 0
		conn n@h -> wanted 0 1 0
		break z@h -> close 3; fail z@h
		up -> a@h
		streams -> 2 4
		conn n@h -> wanted 0 1 0
		closed 4 ->
		come 2 body:x 0 -> frame a@h:x
		break n@h -> fail n@h
		break a@h -> close 2; down a@h
		streams ->
	`)
}

// Behind an end the time of the next beginning counts: nothing of the last connection's times is left.
func TestTimesBeginAgain(t *testing.T) {
	for _, s := range all() {
		x := played(t, s.way+"break b@h\n accept 5 1000 ->\n come 5 name:b@h 1000\n tick 1239 ->\n tick 1240 -> close 5")
		play(t, x, "connect b@h 1240 -> open b@h\n tick 9000 ->\n opened b@h 6 9000 -> send 6 name:m@h\n tick 9239 ->\n tick 9240 -> close 6; fail b@h")
	}
}
