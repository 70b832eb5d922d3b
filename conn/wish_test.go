package conn_test

import (
	"math"
	"strconv"
	"strings"
	"testing"

	"heddle/api"
	"heddle/conn"
)

// noTimes may not be; noNames are no other node's of m@h.
var (
	noTimes = []int{-1, -60, math.MinInt, api.MaxClock + 1, math.MaxInt}
	noNames = []string{"", "m@h", "m", "@h", "b@", "b@h@h", "b h@h", "b@h ", "ß@h", "\xff@h", strings.Repeat("b", 63) + "@h", "b@" + strings.Repeat("h", 70000)}
)

// P21.2: Connect in each state: a stream is asked for of ConnNone alone.
func TestConnect(t *testing.T) {
	for state, want := range map[string]string{
		"none": "wanted 0 0 0", "wanted": "wanted 0 0 0", "trying": "trying 1 0 0", "awaited": "awaited 0 0 0", "taken": "taken 1 0 0", "up": "up 1 0 1 b@h",
	} {
		haps := ""
		if state == "none" {
			haps = "open b@h"
		}
		played(t, ways()[state]+"connect b@h 0 -> "+haps+"\n conn b@h -> "+want+"\n connect b@h 0 -> \n conn b@h -> "+want)
	}
}

// P21.2: Send in each state: the body is sent of ConnUp, and waits in all others.
func TestSend(t *testing.T) {
	for state, want := range map[string]string{
		"none": "wanted 0 1 0", "wanted": "wanted 0 1 0", "trying": "trying 1 1 0", "awaited": "awaited 0 1 0", "taken": "taken 1 1 0", "up": "up 1 0 1 b@h",
	} {
		haps := map[string]string{"none": "open b@h", "up": "send 1 body:xy"}[state]
		x := played(t, ways()[state]+"send b@h xy 0 -> "+haps+"\n conn b@h -> "+want)
		if state != "up" {
			play(t, x, "send b@h z 0 ->\n connect b@h 0 ->\n conn b@h -> "+strings.Replace(want, " 1 0", " 2 0", 1))
		}
	}
}

// P21.2: what was called ahead plays no part: Connect behind Send, Send behind Connect, of several nodes, ask once for each.
func TestWishedAlready(t *testing.T) {
	played(t, `
		send b@h x 0 -> open b@h
		connect b@h 0 ->
		connect a@h 9 -> open a@h
		send a@h y 3 ->
		send a@h z 3 ->
		connect z@h 0 -> open z@h
		conn a@h -> wanted 0 2 0
		conn b@h -> wanted 0 1 0
		conn z@h -> wanted 0 0 0
		refused b@h -> fail b@h
		connect b@h 0 -> open b@h
		conn b@h -> wanted 0 0 0
	`)
}

// A node is wished where another one's attempt is under way: then its end is told.
func TestWishedWhileTaken(t *testing.T) {
	for _, wish := range []string{"connect b@h 0 ->", "send b@h x 0 ->"} {
		for _, end := range []string{"closed 1 -> fail b@h", "break b@h -> close 1; fail b@h", "tick 240 -> close 1; fail b@h", "come 1 raw:xxx 0 -> close 1; fail b@h"} {
			played(t, toTaken+wish+"\n"+end+"\n conn b@h -> none 0 0 0")
			unwished := strings.TrimSuffix(strings.Replace(strings.Replace(end, "; fail b@h", "", 1), "fail b@h", "", 1), " ")
			played(t, toTaken+unwished+"\n conn b@h -> none 0 0 0")
		}
	}
	// What was refused wishes nobody.
	played(t, toTaken+"connect b@h -1 -> !2\n send b@h x -1 -> !2\n closed 1 ->")
	x := played(t, toTaken)
	refused(t, x, step{call: "send", node: "b@h"}, api.ErrLong)
	play(t, x, "closed 1 ->")
}

// Whoever was wished and was up is wished no more: what comes behind is of others.
func TestWishedNoMoreBehindUp(t *testing.T) {
	for _, down := range []string{"closed 1 -> down b@h", "break b@h -> close 1; down b@h"} {
		for _, up := range []string{toOwn, toUp, toUp + "connect b@h 0 ->\n", toUp + "send b@h x 0 -> send 1 body:x\n"} {
			played(t, up+down+`
				accept 7 0 ->
				come 7 name:b@h 0
				conn b@h -> taken 7 0 1
				closed 7 ->
				conn b@h -> none 0 0 1
			`)
		}
	}
}

// A node that failed is wished no more.
func TestWishedNoMoreBehindFail(t *testing.T) {
	for _, way := range []string{toWanted + "refused b@h -> fail b@h\n", toWanted + "break b@h -> fail b@h\n", toTrying + "closed 1 -> fail b@h\n", toAwaited + "tick 240 -> fail b@h\n"} {
		played(t, way+"accept 7 0 ->\n come 7 name:b@h 0\n conn b@h -> taken 7 0 0\n closed 7 ->\n conn b@h -> none 0 0 0")
	}
}

// P21.2: names that are none, and this node's own; of all calls that have one.
func TestNoOthers(t *testing.T) {
	for _, name := range noNames {
		x := played(t, toUp)
		for _, call := range []string{"connect", "send", "opened", "refused", "break"} {
			refused(t, x, step{call: call, node: name, bytes: []byte("x"), stream: 9}, api.ErrOther)
		}
		if c := x.Conn(name); c != (api.Conn{}) {
			t.Errorf("Conn(%.20q) = %+v", name, c)
		}
	}
	// The greatest name, and such as are nearly this node's.
	for _, name := range []string{strings.Repeat("n", 62) + "@h", "a@b", "m@hh", "mm@h", "M@h", "m@H"} {
		x := open(t)
		does(t, x, step{call: "connect", node: name}, "open "+name)
		does(t, x, step{call: "send", node: name, bytes: []byte("x")}, "")
	}
}

// P21.2: times: 0 and MaxClock may be, and those between; of all calls that have one.
func TestTimes(t *testing.T) {
	for _, now := range noTimes {
		x := played(t, toUp)
		for _, call := range []string{"connect", "send", "opened", "accept", "come", "tick"} {
			refused(t, x, step{call: call, node: "z@h", bytes: []byte("x"), stream: 9, now: now}, api.ErrRange)
		}
		refused(t, x, step{call: "send", node: "b@h", bytes: []byte("x"), now: now}, api.ErrRange)
		refused(t, x, step{call: "come", stream: 1, bytes: unpack("body:x"), now: now}, api.ErrRange)
	}
	for _, now := range []int{0, 1, 60, api.MaxClock - 1, api.MaxClock} {
		n := strconv.Itoa(now)
		played(t, strings.ReplaceAll("connect b@h NOW -> open b@h\n send b@h x NOW ->\n opened b@h 1 NOW -> send 1 name:m@h\n accept 2 NOW ->\n come 2 name:a@h NOW -> send 2 status:ok; send 2 challenge:m@h:#2\n tick NOW ->", "NOW", n))
	}
}

// P21.2: a body has one byte or more, and no more than MaxFrame, in each state; the greatest one is sent, and comes, as it is.
func TestBodies(t *testing.T) {
	long := make([]byte, api.MaxFrame+1)
	for state, way := range ways() {
		x := played(t, way)
		for _, body := range [][]byte{nil, {}, long, append(long, 0)} {
			refused(t, x, step{call: "send", node: "b@h", bytes: body}, api.ErrLong)
		}
		before := x.Conn("b@h").Pending
		for _, body := range [][]byte{long[:api.MaxFrame], {0}, long[:1024], long[:1025], long[:65536]} {
			haps, err := x.Send("b@h", body, 0)
			done(t, "Send", err)
			if state == "up" && (len(haps) != 1 || string(haps[0].Bytes) != string(framed(4, body))) {
				t.Errorf("a body of %d bytes: %.80v", len(body), haps)
			}
		}
		if after := x.Conn("b@h").Pending; state != "up" && after != before+5 {
			t.Errorf("%s: %d wait", state, after)
		}
	}
}

// full is a table of that way to a state, of which MaxPending bodies wait.
func full(t *testing.T, way string) *conn.Table {
	t.Helper()
	x := played(t, way)
	for i := x.Conn("b@h").Pending; i < api.MaxPending; i++ {
		_, err := x.Send("b@h", []byte(strconv.Itoa(i)), 0)
		done(t, "Send", err)
	}
	return x
}

// P21.2: MaxPending bodies wait, and one more is refused, in each state in which any wait; others still have room, and so has it when they are sent or dropped.
func TestMaxPending(t *testing.T) {
	for state, way := range ways() {
		if state == "none" || state == "up" {
			continue
		}
		x := full(t, way)
		for range 2 {
			refused(t, x, step{call: "send", node: "b@h", bytes: []byte("x")}, api.ErrMany)
			refused(t, x, step{call: "send", node: "b@h"}, api.ErrLong)
		}
		does(t, x, step{call: "connect", node: "b@h"}, "")
		does(t, x, step{call: "send", node: "z@h", bytes: []byte("x")}, "open z@h")
		if n := x.Conn("b@h").Pending; n != api.MaxPending {
			t.Errorf("%s: %d wait", state, n)
		}
		_, err := x.Break("b@h")
		done(t, "Break", err)
		play(t, x, "conn b@h -> none 0 0 0\n send b@h x 0 -> open b@h\n conn b@h -> wanted 0 1 0")
	}
	x := full(t, toWished)
	haps, err := x.Come(1, unpack("reply:#1:3"), 0)
	if err != nil || len(haps) != 2+api.MaxPending {
		t.Fatalf("%d, %v", len(haps), err)
	}
	for i, h := range haps[2:] {
		if want := "send 1 body:" + strconv.Itoa(i); tellOne(h) != want {
			t.Fatalf("%s, want %s", tellOne(h), want)
		}
	}
	play(t, x, "conn b@h -> up 1 0 1 b@h\n send b@h x 0 -> send 1 body:x")
}

// P21.3: Opened in each state: of ConnWanted alone.
func TestOpened(t *testing.T) {
	for state, way := range ways() {
		x := played(t, way)
		if state != "wanted" {
			play(t, x, "opened b@h 9 0 -> !420")
			continue
		}
		play(t, x, "send b@h x 0 ->\n opened b@h 9 0 -> send 9 name:m@h\n conn b@h -> trying 9 1 0\n streams -> 9\n opened b@h 10 0 -> !420\n opened b@h 9 0 -> !6")
	}
}

// P21.3, P21.4: numbers of streams: none below 0, none that the table has, of whomever; what it has forgotten may come again.
func TestNumbers(t *testing.T) {
	x := played(t, toUp+"connect z@h 0 -> open z@h")
	for _, n := range []int{-1, -2, math.MinInt} {
		for _, call := range []string{"opened", "accept", "come", "closed"} {
			refused(t, x, step{call: call, node: "z@h", stream: n}, api.ErrArg)
		}
	}
}

func TestNumbersThatAreThere(t *testing.T) {
	x := played(t, "accept 3 0 ->\n"+strings.ReplaceAll(toUp, "#1", "#2")+`
		connect z@h 0 -> open z@h
		connect a@h 0 -> open a@h
		opened z@h 0 0 -> send 0 name:m@h
		accept 4 0 ->
		come 4 name:n@h 0 -> send 4 status:ok; send 4 challenge:m@h:#4
		streams -> 0 1 3 4
	`)
	for _, n := range []int{0, 1, 3, 4} {
		refused(t, x, step{call: "opened", node: "a@h", stream: n}, api.ErrTwice)
		refused(t, x, step{call: "accept", stream: n}, api.ErrTwice)
	}
	for _, n := range []int{2, 5, math.MaxInt} {
		refused(t, x, step{call: "come", stream: n}, api.ErrNone)
		refused(t, x, step{call: "closed", stream: n}, api.ErrNone)
	}
	play(t, x, `
		closed 0 -> fail z@h
		break b@h -> close 1; down b@h
		closed 3 ->
		closed 4 ->
		closed 4 -> !7
		come 0 - 0 -> !7
		come 1 - 0 -> !7
		accept 1 0 ->
		accept 0 0 ->
		accept 4 0 ->
		opened a@h 3 0 -> send 3 name:m@h
		accept 9223372036854775807 0 ->
		streams -> 0 1 3 4 9223372036854775807
	`)
}

// P21.3, P21.4: MaxStreams streams, of strangers and of nodes, and one more; those that are forgotten make room.
func TestMaxStreams(t *testing.T) {
	x := played(t, toUp+"connect z@h 0 -> open z@h\n opened z@h 0 0 -> send 0 name:m@h\n connect a@h 0 -> open a@h\n accept 2 0 ->\n come 2 name:n@h 0")
	for n := 3; n < api.MaxStreams; n++ {
		done(t, "Accept", x.Accept(n, 0))
	}
	full := func() {
		t.Helper()
		if n := len(x.Streams()); n != api.MaxStreams {
			t.Errorf("%d streams", n)
		}
		refused(t, x, step{call: "accept", stream: 9000}, api.ErrMany)
		refused(t, x, step{call: "opened", node: "a@h", stream: 9000}, api.ErrMany)
		refused(t, x, step{call: "accept", stream: 77}, api.ErrTwice)
		refused(t, x, step{call: "opened", node: "a@h", stream: 77}, api.ErrTwice)
		refused(t, x, step{call: "opened", node: "b@h", stream: 9000}, api.ErrConn)
	}
	full()
	for i, end := range []string{"closed 5 ->", "closed 2 ->", "closed 0 -> fail z@h", "break b@h -> close 1; down b@h", "come 6 raw:xxxx 0 -> close 6"} {
		play(t, x, end)
		done(t, "Accept", x.Accept(9001+i, 0))
		full()
	}
	play(t, x, "closed 7 ->\n opened a@h 7 0 -> send 7 name:m@h\n connect b@h 0 -> open b@h\n opened b@h 9000 0 -> !5")
}

// P21.3: Refused in each state: of ConnWanted alone; what waits is dropped.
func TestRefused(t *testing.T) {
	for state, way := range ways() {
		x := played(t, way)
		if state != "wanted" {
			play(t, x, "refused b@h -> !420")
			continue
		}
		play(t, x, "send b@h x 0 ->\n refused b@h -> fail b@h\n conn b@h -> none 0 0 0\n refused b@h -> !420\n opened b@h 9 0 -> !420\n send b@h y 0 -> open b@h\n conn b@h -> wanted 0 1 0")
	}
	played(t, "refused z@h -> !420")
}

// P21.4: Accept in each state makes a stranger, whose times begin then; it is nobody's till it tells a name.
func TestAccept(t *testing.T) {
	for _, way := range ways() {
		x := played(t, way)
		before := x.Conn("b@h")
		play(t, x, "accept 9 5 ->\n accept 9 5 -> !6\n come 9 - 5 ->")
		if x.Conn("b@h") != before {
			t.Errorf("%v", x.Conn("b@h"))
		}
	}
}
