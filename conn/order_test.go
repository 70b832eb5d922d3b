package conn_test

import (
	"errors"
	"math"
	"testing"

	"heddle/api"
	"heddle/conn"
	"heddle/sample"
)

// choice is an argument's value, and with which number it is refused; OK, if it may be.
type choice[T any] struct {
	value T
	code  api.Errno
}

var (
	times   = []choice[int]{{0, api.OK}, {10, api.OK}, {api.MaxClock, api.OK}, {-1, api.ErrRange}, {api.MaxClock + 1, api.ErrRange}, {math.MinInt, api.ErrRange}, {math.MaxInt, api.ErrRange}}
	bodies  = []choice[[]byte]{{[]byte("x"), api.OK}, {nil, api.ErrLong}, {make([]byte, api.MaxFrame+1), api.ErrLong}}
	numbers = []choice[int]{{9, api.OK}, {1, api.OK}, {2, api.OK}, {-1, api.ErrArg}, {math.MinInt, api.ErrArg}}
)

// whom are names, most of them in a state of their own in the table that ready makes.
var whom = []choice[string]{{"a@h", api.OK}, {"b@h", api.OK}, {"n@h", api.OK}, {"o@h", api.OK}, {"p@h", api.OK}, {"z@h", api.OK}, {"m@h", api.ErrOther}, {"", api.ErrOther}, {"b@", api.ErrOther}, {"\xff@h", api.ErrOther}}

// ready is a table in which of a@h nothing is known, to b@h a stream is wanted, n@h is tried on the stream 1, o@h awaited, p@h is taken on 3 and z@h up on 4; 2 is a stranger's.
func ready(t testing.TB) *conn.Table {
	t.Helper()
	return played(t, `
		connect b@h 0
		send b@h x 0
		connect n@h 0
		opened n@h 1 0
		accept 2 0
		connect o@h 0
		opened o@h 5 0
		come 5 status:nok 0
		accept 3 0
		come 3 name:p@h 0
		accept 4 0
		come 4 name:z@h 0
		come 4 reply:#5:3 0
	`)
}

// unchanged: all that is not to be seen of it is as ready made it, too.
func unchanged(t *testing.T, x *conn.Table) {
	t.Helper()
	play(t, x, `
		streams -> 1 2 3 4
		tick 59 ->
		tick 60 -> send 4 tick
		tick 239 -> send 4 tick
		accept 7 0 ->
		come 7 name:o@h 0 -> send 7 status:ok; send 7 challenge:m@h:#6
		closed 7 -> fail o@h
		opened b@h 7 0 -> send 7 name:m@h
		come 7 status:ok,challenge:b@h:3,ack:#7 0 -> send 7 reply:3:#7; up b@h; send 7 body:x
		come 1 status:ok,challenge:n@h:3 0 -> send 1 reply:3:#1
		come 2 name:a@h 0 -> send 2 status:ok; send 2 challenge:m@h:#2
		closed 2 ->
		come 3 reply:#4:3 0 -> send 3 ack:3; up p@h
		come 4 body:y 0 -> frame z@h:y
		tick 240 -> close 7; down b@h; close 1; fail n@h; close 3; down p@h; close 4; down z@h
	`)
}

// holds: a call is refused with the first of those numbers that is one, and then changes nothing; else it is not refused.
func holds(t *testing.T, s step, codes ...api.Errno) {
	t.Helper()
	x := ready(t)
	for _, code := range codes {
		if code != api.OK {
			refused(t, x, s, code)
			unchanged(t, x)
			return
		}
	}
	_, err := s.perform(x)
	done(t, s.String(), err)
}

// when is the number, if it is so.
func when(is bool, code api.Errno) api.Errno {
	if is {
		return code
	}
	return api.OK
}

// Rule 2: of several errors the first one; nothing is changed.
func TestWhichErrorOfWishes(t *testing.T) {
	for _, now := range times {
		for _, name := range whom {
			holds(t, step{call: "connect", node: name.value, now: now.value}, now.code, name.code)
			for _, body := range bodies {
				holds(t, step{call: "send", node: name.value, bytes: body.value, now: now.value}, now.code, name.code, body.code)
			}
		}
	}
}

func TestWhichErrorOfSendWhereManyWait(t *testing.T) {
	for _, now := range times {
		for _, name := range whom[6:] {
			for _, body := range bodies {
				x := full(t, toWanted)
				for _, code := range []api.Errno{now.code, name.code} {
					if code != api.OK {
						refused(t, x, step{call: "send", node: name.value, bytes: body.value, now: now.value}, code)
						break
					}
				}
			}
		}
	}
	x := full(t, toWanted)
	for _, now := range times {
		for _, body := range bodies {
			s := step{call: "send", node: "b@h", bytes: body.value, now: now.value}
			switch {
			case now.code != api.OK:
				refused(t, x, s, now.code)
			case body.code != api.OK:
				refused(t, x, s, body.code)
			default:
				refused(t, x, s, api.ErrMany)
			}
		}
	}
}

func TestWhichErrorOfOpened(t *testing.T) {
	for _, name := range whom {
		notWanted := when(name.value != "b@h", api.ErrConn)
		for _, now := range times {
			for _, n := range numbers {
				twice := when(n.value == 1 || n.value == 2, api.ErrTwice)
				holds(t, step{call: "opened", node: name.value, stream: n.value, now: now.value}, now.code, name.code, n.code, twice, notWanted)
			}
		}
		holds(t, step{call: "refused", node: name.value}, name.code, notWanted)
		holds(t, step{call: "break", node: name.value}, name.code)
	}
}

func TestWhichErrorOfStreams(t *testing.T) {
	for _, n := range numbers {
		none := when(n.value == 9, api.ErrNone)
		for _, now := range times {
			holds(t, step{call: "accept", stream: n.value, now: now.value}, now.code, n.code, when(n.value != 9, api.ErrTwice))
			for _, b := range [][]byte{nil, unpack("name:b@h"), {255, 255, 255, 255}} {
				holds(t, step{call: "come", stream: n.value, bytes: b, now: now.value}, now.code, n.code, none)
			}
		}
		holds(t, step{call: "closed", stream: n.value}, n.code, none)
	}
	for _, now := range times {
		holds(t, step{call: "tick", now: now.value}, now.code)
	}
}

// Where there are MaxStreams streams, that is told last.
func TestWhichErrorOfMany(t *testing.T) {
	x := ready(t)
	for n := 10; len(x.Streams()) < api.MaxStreams; n++ {
		done(t, "Accept", x.Accept(n, 0))
	}
	for _, now := range times {
		for _, n := range append(numbers, choice[int]{value: 9000}) {
			there := when(n.value == 1 || n.value == 2, api.ErrTwice)
			if n.value == 9 {
				continue
			}
			first := func(codes ...api.Errno) api.Errno {
				for _, code := range codes {
					if code != api.OK {
						return code
					}
				}
				return api.ErrMany
			}
			refused(t, x, step{call: "accept", stream: n.value, now: now.value}, first(now.code, n.code, there))
			for _, name := range whom {
				refused(t, x, step{call: "opened", node: name.value, stream: n.value, now: now.value}, first(now.code, name.code, n.code, there, when(name.value != "b@h", api.ErrConn)))
			}
		}
	}
}

// every does each call with all kinds of arguments, wrong ones among them.
func every(t *testing.T, do func(s step)) {
	t.Helper()
	for _, name := range whom {
		do(step{call: "refused", node: name.value})
		do(step{call: "break", node: name.value})
		for _, now := range times {
			do(step{call: "connect", node: name.value, now: now.value})
			for _, body := range bodies {
				do(step{call: "send", node: name.value, bytes: body.value, now: now.value})
			}
			for _, n := range numbers {
				do(step{call: "opened", node: name.value, stream: n.value, now: now.value})
			}
		}
	}
	for _, n := range numbers {
		for _, now := range times {
			do(step{call: "accept", stream: n.value, now: now.value})
			for _, text := range append(messages, "raw:\xff\xff", "raw:\xff\xff\xff\xff", "tick", "body:x", "") {
				do(step{call: "come", stream: n.value, bytes: unpack(text), now: now.value})
			}
			do(step{call: "tick", now: now.value})
		}
		do(step{call: "closed", stream: n.value})
	}
}

// nobody holds that every call refuses with ErrZero, whatever else applies, or tells nothing.
func nobody(t *testing.T, what string, x *conn.Table) {
	t.Helper()
	every(t, func(s step) {
		t.Helper()
		haps, err := s.perform(x)
		if haps != nil || !sample.IsFault(err, fault(api.ErrZero)) {
			t.Fatalf("%s: %v: %s, %v", what, s, tell(haps), err)
		}
	})
	for _, name := range append(names, "p@h", "o@h") {
		if c := x.Conn(name); c != (api.Conn{}) || len(x.Up()) != 0 || len(x.Streams()) != 0 {
			t.Errorf("%s: %+v, %v, %v", what, c, x.Up(), x.Streams())
		}
	}
}

// Rule 3: of a table that is nil, that was made or copied by hand.
func TestNobodysTable(t *testing.T) {
	nobody(t, "nil", nil)
	nobody(t, "new", new(conn.Table))
	nobody(t, "literal", &conn.Table{})
	x, _ := conn.New(api.Peer{}, "", 0)
	nobody(t, "refused", x)
	for _, x := range []*conn.Table{open(t), ready(t)} {
		before := look(x)
		copied := *x
		nobody(t, "copied", &copied)
		if after := look(x); after != before {
			t.Errorf("%s was %s", after, before)
		}
	}
}

// A table over which another one is laid by hand is nobody's either.
func TestOverwrittenTable(t *testing.T) {
	a, b := ready(t), ready(t)
	*a = *b
	nobody(t, "overwritten", a)
	unchanged(t, b)
	*b = conn.Table{}
	nobody(t, "emptied by hand", b)
}

// Rule 1: no call panics, whatever it is given; a refusal is this layer's.
func TestEveryCall(t *testing.T) {
	for _, x := range []*conn.Table{open(t), ready(t), played(t, toUp), played(t, toTrying)} {
		every(t, func(s step) {
			haps, err := s.perform(x)
			var outer *api.Fault
			if err != nil && (haps != nil || !errors.As(err, &outer) || *outer != fault(outer.Code)) {
				t.Fatalf("%v: %s, %v", s, tell(haps), err)
			}
		})
	}
}
