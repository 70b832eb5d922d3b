package conn_test

import (
	"strconv"
	"strings"
	"testing"

	"heddle/api"
	"heddle/conn"
)

// P21.5: both handshakes, message by message: what is told, and what is known behind each.
func TestOwnHandshake(t *testing.T) {
	for _, status := range []string{"ok", "ok_simultaneous"} {
		played(t, toTrying+`
			send b@h x 1 ->
			come 1 status:`+status+` 2 ->
			conn b@h -> trying 1 1 0
			come 1 challenge:b@h:9 3 -> send 1 reply:9:#1
			conn b@h -> trying 1 1 0
			up ->
			come 1 ack:#1 4 -> up b@h; send 1 body:x
			conn b@h -> up 1 0 1 b@h
			up -> b@h
			streams -> 1
		`)
	}
}

func TestOthersHandshake(t *testing.T) {
	played(t, `
		accept 1 0 ->
		up ->
		conn b@h -> none 0 0 0
		come 1 name:b@h 1 -> send 1 status:ok; send 1 challenge:m@h:#1
		conn b@h -> taken 1 0 0
		send b@h x 2 ->
		conn b@h -> taken 1 1 0
		up ->
		come 1 reply:#1:9 3 -> send 1 ack:9; up b@h; send 1 body:x
		conn b@h -> up 1 0 1 b@h
		up -> b@h
		streams -> 1
	`)
}

// P21.5: what waits is sent in order, behind what the handshake sends and behind YUp, each body in a frame of its own.
func TestWhatWaitsIsSent(t *testing.T) {
	bodies := "send b@h one 0\n send b@h two 0\n send z@h other 0\n send b@h three 0\n"
	played(t, toTrying+bodies+`
		come 1 status:ok,challenge:b@h:3,ack:#1 0 -> send 1 reply:3:#1; up b@h; send 1 body:one; send 1 body:two; send 1 body:three
		conn b@h -> up 1 0 1 b@h
		conn z@h -> wanted 0 1 0
		send b@h four 0 -> send 1 body:four
		closed 1 -> down b@h
	`)
	played(t, toTaken+bodies+`
		come 1 reply:#1:3 0 -> send 1 ack:3; up b@h; send 1 body:one; send 1 body:two; send 1 body:three
		conn b@h -> up 1 0 1 b@h
		closed 1 -> down b@h
		send b@h five 0 -> open b@h
		conn b@h -> wanted 0 1 1
	`)
}

// P21.5: the epoch is how often a node was up; each has its own.
func TestEpochs(t *testing.T) {
	x := open(t)
	for epoch := range 5 {
		e, n := strconv.Itoa(epoch), strconv.Itoa(epoch+1)
		play(t, x, strings.NewReplacer("E", e, "N", n).Replace(`
			conn b@h -> none 0 0 E
			accept 1 0 ->
			come 1 name:b@h 0 -> send 1 status:ok; send 1 challenge:m@h:#N
			conn b@h -> taken 1 0 E
			come 1 reply:#N:3 0 -> send 1 ack:3; up b@h
			conn b@h -> up 1 0 N b@h
			conn a@h -> none 0 0 0
			closed 1 -> down b@h
		`))
	}
	play(t, x, `
		connect b@h 0 -> open b@h
		conn b@h -> wanted 0 0 5
		opened b@h 1 0 -> send 1 name:m@h
		conn b@h -> trying 1 0 5
		come 1 status:nok 0 -> close 1
		conn b@h -> awaited 0 0 5
	`)
}

// P21.5: the peer is what this handshake has told, whoever it was before.
func TestPeer(t *testing.T) {
	x := open(t)
	for i, p := range []api.Peer{{Name: "b@h", Flags: api.FlagsNeeded, Creation: 1}, {Name: "b@h", Flags: 1<<64 - 1, Creation: 1<<32 - 1}, {Name: "b@h", Flags: api.FlagsNeeded | 1<<50, Creation: 2}} {
		n := strconv.Itoa(i + 1)
		does(t, x, step{call: "accept", stream: 1}, "")
		hello := message(api.Shake{Kind: api.HName, Flags: p.Flags, Creation: p.Creation, Name: p.Name})
		does(t, x, step{call: "come", stream: 1, bytes: hello}, "send 1 status:ok; send 1 challenge:m@h:#"+n)
		if c := x.Conn("b@h"); c != (api.Conn{State: api.ConnTaken, Stream: 1, Epoch: i}) {
			t.Errorf("%+v", c)
		}
		play(t, x, "come 1 reply:#"+n+":3 0 -> send 1 ack:3; up b@h")
		if c := x.Conn("b@h"); c != (api.Conn{State: api.ConnUp, Stream: 1, Epoch: i + 1, Peer: p}) {
			t.Errorf("%+v", c)
		}
		play(t, x, "closed 1 -> down b@h")
		if c := x.Conn("b@h"); c != (api.Conn{Epoch: i + 1}) {
			t.Errorf("%+v", c)
		}
	}
	// Of an attempt of one's own the challenge tells it.
	y, p := played(t, toTrying), api.Peer{Name: "b@h", Flags: api.FlagsNeeded | 1<<33, Creation: 99}
	bytes := append(unpack("status:ok"), message(api.Shake{Kind: api.HChallenge, Flags: p.Flags, Creation: p.Creation, Name: p.Name, Challenge: 3})...)
	does(t, y, step{call: "come", stream: 1, bytes: append(bytes, unpack("ack:#1")...)}, "send 1 reply:3:#1; up b@h")
	if c := y.Conn("b@h"); c.Peer != p {
		t.Errorf("%+v", c)
	}
}

// P21.5: a tick is nothing, a body is told, an empty call too is no more than a time.
func TestBodiesCome(t *testing.T) {
	x := played(t, toUp+`
		come 1 body:xy 0 -> frame b@h:xy
		come 1 tick 0 ->
		come 1 - 0 ->
		come 1 tick,body:a,tick,tick,body:b,body:c,tick 0 -> frame b@h:a; frame b@h:b; frame b@h:c
		conn b@h -> up 1 0 1 b@h
	`)
	long := strings.Repeat("heddle", 30000)[:api.MaxFrame]
	haps, err := x.Come(1, framed(4, []byte(long)), 0)
	if err != nil || len(haps) != 1 || !sameHap(haps[0], api.Hap{Kind: api.YFrame, Node: "b@h", Bytes: []byte(long)}) {
		t.Errorf("%.100v, %v", haps, err)
	}
}

// pieces are bytes cut so that at most so many come at a time.
func pieces(b []byte, most int) [][]byte {
	var all [][]byte
	for len(b) > most {
		all, b = append(all, b[:most]), b[most:]
	}
	return append(all, b)
}

// feed lets bytes come on a stream, in pieces; what happens is as if they came at once.
func feed(t testing.TB, x *conn.Table, stream int, b []byte, most int) string {
	t.Helper()
	var all []api.Hap
	for _, piece := range pieces(b, most) {
		haps, err := x.Come(stream, piece, 0)
		done(t, "Come", err)
		all = append(all, haps...)
	}
	return tell(all)
}

// P21.5: frames in pieces of every length, several frames at once, those of the handshake and those behind it in one call.
func TestPieces(t *testing.T) {
	own, taken := unpack("status:ok,challenge:b@h:3,ack:#1,body:one,tick,body:two,body:"+strings.Repeat("x", 300)), unpack("name:b@h,reply:#1:3,tick,body:one,body:two,tick,raw:\x00\x00")
	for most := range len(own) {
		x := played(t, toTrying+"send b@h w 0")
		if got, want := feed(t, x, 1, own, most+1), "send 1 reply:3:#1; up b@h; send 1 body:w; frame b@h:one; frame b@h:two; frame b@h:"+strings.Repeat("x", 60); got != want {
			t.Fatalf("pieces of %d: %s", most+1, got)
		}
		y := played(t, "accept 1 0 ->")
		if got, want := feed(t, y, 1, taken, most+1), "send 1 status:ok; send 1 challenge:m@h:#1; send 1 ack:3; up b@h; frame b@h:one; frame b@h:two"; got != want {
			t.Fatalf("pieces of %d: %s", most+1, got)
		}
		play(t, y, "come 1 raw:\x00 0 ->\n come 1 raw:\x01 0 ->\n come 1 raw:! 0 -> frame b@h:!")
	}
}

// P21.5: what stands behind the frame with which a stream ends plays no part; nor does it where the stream's number comes again.
func TestBehindTheEnd(t *testing.T) {
	for _, c := range []struct{ way, bytes, want string }{
		{toTrying, "status:nok,status:ok,challenge:b@h:3", "close 1"},
		{toTrying, "status:alive,status:ok", "close 1; fail b@h"},
		{toTrying, "narrow:,status:ok,challenge:b@h:3,ack:#1,body:x", "close 1; fail b@h"},
		{toTaken, "narrow:x,reply:#1:3,body:x", "close 1"},
		{toTaken, "reply:#2:3,reply:#1:3,body:x", "close 1"},
		{toWished, "ack:#1,reply:#1:3", "close 1; fail b@h"},
		{toUp, "body:one,raw:\xff\xff\xff\xff,body:two", "frame b@h:one; close 1; down b@h"},
		{"accept 1 0 ->\n", "narrow:,name:b@h", "close 1"},
		{"accept 1 0 ->\n", "name:m@h,name:b@h,reply:#1:3", "send 1 status:not_allowed; close 1"},
	} {
		x := played(t, c.way)
		does(t, x, step{call: "come", stream: 1, bytes: unpack(c.bytes)}, c.want)
		play(t, x, "streams ->\n come 1 - 0 -> !7\n accept 1 0 ->\n come 1 name:b@h 0 -> send 1 status:ok; send 1 challenge:m@h:#2\n conn b@h -> taken 1 0 "+strconv.Itoa(x.Conn("b@h").Epoch))
	}
}

// P21.5: frames that are too long, in each state of a stream: the greatest body's length, and one more, which is refused as soon as the length is there.
func TestTooLong(t *testing.T) {
	for _, way := range []string{"accept 1 0 ->\n", toTrying, toTaken, toWished} {
		end := map[string]string{toTrying: "close 1; fail b@h", toWished: "close 1; fail b@h"}[way]
		if end == "" {
			end = "close 1"
		}
		x := played(t, way)
		does(t, x, step{call: "come", stream: 1, bytes: []byte{4}}, "")
		does(t, x, step{call: "come", stream: 1, bytes: []byte{1}}, end)
		// 1024 bytes are a frame, but no message.
		x = played(t, way)
		does(t, x, step{call: "come", stream: 1, bytes: append([]byte{4, 0}, make([]byte, 1023)...)}, "")
		play(t, x, "streams -> 1")
		does(t, x, step{call: "come", stream: 1, bytes: []byte{0}}, end)
	}
	for _, way := range []string{toUp, toOwn} {
		x := played(t, way)
		does(t, x, step{call: "come", stream: 1, bytes: []byte{0, 2, 0}}, "")
		does(t, x, step{call: "come", stream: 1, bytes: []byte{1}}, "close 1; down b@h")
		x = played(t, way)
		does(t, x, step{call: "come", stream: 1, bytes: append([]byte{0, 2, 0, 0}, make([]byte, api.MaxFrame-1)...)}, "")
		play(t, x, "streams -> 1")
	}
}

// P21.5: more bytes than a reader holds: it refuses them, and the stream ends, whatever stands in them.
func TestMoreThanAReaderHolds(t *testing.T) {
	great := make([]byte, api.MaxHeld+1)
	for way, want := range map[string]string{"accept 1 0 ->\n": "close 1", toTrying: "close 1; fail b@h", toTaken: "close 1", toUp: "close 1; down b@h"} {
		x := played(t, way)
		copy(great, unpack("name:b@h"))
		does(t, x, step{call: "come", stream: 1, bytes: great}, want)
		play(t, x, "streams ->")
		clear(great)
	}
	// As many as it holds are ticks.
	x := played(t, toUp)
	does(t, x, step{call: "come", stream: 1, bytes: great[:api.MaxHeld]}, "")
	does(t, x, step{call: "come", stream: 1, bytes: append([]byte{0, 0, 0}, great[:api.MaxHeld-3]...)}, "")
}

// Bytes that are held count: three of a length stand ahead of what comes.
func TestHeldBytesCount(t *testing.T) {
	x := played(t, toUp)
	does(t, x, step{call: "come", stream: 1, bytes: []byte{0, 0, 0}}, "")
	does(t, x, step{call: "come", stream: 1, bytes: make([]byte, api.MaxHeld-2)}, "close 1; down b@h")
}

// messages is one of each kind, right for the stream 1 of b@h.
var messages = []string{"name:b@h", "status:ok", "challenge:b@h:3", "reply:#1:3", "ack:#1"}

// P21.5: each message where it is awaited and where it is not.
func TestWhichMessage(t *testing.T) {
	for _, c := range []struct {
		way     string
		awaited string
		end     string
	}{
		{"accept 1 0 ->\n", "name:b@h", "close 1"},
		{toTrying, "status:ok", "close 1; fail b@h"},
		{toTrying + "come 1 status:ok 0 ->\n", "challenge:b@h:3", "close 1; fail b@h"},
		{toTrying + "come 1 status:ok,challenge:b@h:3 0\n", "ack:#1", "close 1; fail b@h"},
		{toTaken, "reply:#1:3", "close 1"},
		{toWished, "reply:#1:3", "close 1; fail b@h"},
	} {
		for _, m := range messages {
			x := played(t, c.way)
			haps, err := x.Come(1, unpack(m), 0)
			done(t, "Come", err)
			lives := strings.Contains(look(x), "streams [1]")
			if m == c.awaited && (!lives || strings.Contains(tell(haps), "close")) || m != c.awaited && (lives || tell(haps) != c.end) {
				t.Errorf("%s: %s: %s; %s", c.way, m, tell(haps), look(x))
			}
		}
		for _, wrong := range []string{"narrow:", "narrow:x", "narrow:" + strings.Repeat("N", 1024)} {
			does(t, played(t, c.way), step{call: "come", stream: 1, bytes: unpack(wrong)}, c.end)
		}
	}
}

// P21.5: each status, of an attempt of one's own, with what waits; nok elsewhere than where a status is awaited is as any other wrong message.
func TestStatuses(t *testing.T) {
	for status, want := range map[string]string{
		"ok": "", "ok_simultaneous": "", "nok": "close 1", "not_allowed": "close 1; fail b@h", "alive": "close 1; fail b@h", "okay": "close 1; fail b@h", "": "close 1; fail b@h", "nokk": "close 1; fail b@h", "no": "close 1; fail b@h",
	} {
		x := played(t, toTrying+"send b@h x 0 ->")
		does(t, x, step{call: "come", stream: 1, bytes: unpack("narrow:s" + status)}, want)
		state := map[string]string{"ok": "trying 1 1 0", "ok_simultaneous": "trying 1 1 0", "nok": "awaited 0 1 0"}[status]
		if state == "" {
			state = "none 0 0 0"
		}
		play(t, x, "conn b@h -> "+state)
	}
	for way, want := range map[string]string{"accept 1 0 ->\n": "close 1", toTrying + "come 1 status:ok 0 ->\n": "close 1; fail b@h", toTrying + "come 1 status:ok,challenge:b@h:3 0\n": "close 1; fail b@h", toTaken: "close 1", toWished: "close 1; fail b@h"} {
		x := played(t, way+"come 1 status:nok 0 -> "+want)
		play(t, x, "conn b@h -> none 0 0 0\n streams ->")
	}
}

// P21.5: behind nok what waits goes on waiting, for the other side's attempt, or for nobody.
func TestAwaited(t *testing.T) {
	wait := toTrying + "send b@h x 0 ->\n come 1 status:nok 10 -> close 1\n send b@h y 0 ->\n conn b@h -> awaited 0 2 0\n"
	played(t, wait+`
		streams ->
		connect b@h 0 ->
		opened b@h 5 0 -> !420
		refused b@h -> !420
		accept 2 20 ->
		come 2 name:b@h 30 -> send 2 status:ok; send 2 challenge:m@h:#2
		conn b@h -> taken 2 2 0
		tick 269 ->
		come 2 reply:#2:3 30 -> send 2 ack:3; up b@h; send 2 body:x; send 2 body:y
	`)
	played(t, wait+"accept 2 20 ->\n come 2 name:b@h 30\n tick 270 -> close 2; fail b@h\n conn b@h -> none 0 0 0")
	played(t, wait+"tick 249 ->\n tick 250 -> fail b@h\n conn b@h -> none 0 0 0\n send b@h z 0 -> open b@h\n conn b@h -> wanted 0 1 0")
}

// P21.5: a wrong digest, of each side; and what is one of another cookie.
func TestDigests(t *testing.T) {
	other, err := conn.New(somebody("b@h"), "Secret", seed)
	done(t, "New", err)
	for _, wrong := range []string{"reply:#2:3", "reply:3:3", "reply:3:#1"} {
		played(t, toTaken+"come 1 "+wrong+" 0 -> close 1\n conn b@h -> none 0 0 0")
		played(t, toWished+"come 1 "+wrong+" 0 -> close 1; fail b@h\n conn b@h -> none 0 0 0")
	}
	for _, wrong := range []string{"ack:3", "ack:#2"} {
		played(t, toTrying+"send b@h x 0\n come 1 status:ok,challenge:b@h:3,"+wrong+" 0 -> send 1 reply:3:#1; close 1; fail b@h\n conn b@h -> none 0 0 0")
	}
	for bit := range 128 {
		x, y := played(t, toTaken), played(t, toTrying+"come 1 status:ok,challenge:b@h:3 0")
		reply, ack := unpack("reply:#1:3"), unpack("ack:#1")
		reply[7+bit/8] ^= 1 << (bit % 8)
		ack[3+bit/8] ^= 1 << (bit % 8)
		does(t, x, step{call: "come", stream: 1, bytes: reply}, "close 1")
		does(t, y, step{call: "come", stream: 1, bytes: ack}, "close 1; fail b@h")
	}
	// The other one has all but the cookie.
	x := played(t, toTaken)
	done(t, "Connect", second(other.Connect("m@h", 0)))
	done(t, "Opened", second(other.Opened("m@h", 1, 0)))
	haps, err := other.Come(1, unpack("status:ok,challenge:m@h:#1"), 0)
	done(t, "Come", err)
	does(t, x, step{call: "come", stream: 1, bytes: haps[0].Bytes}, "close 1")
}

func second(_ []api.Hap, err error) error { return err }

// P21.5: a challenge of another node than was called, or of one that lacks a flag, is refused; its creation may be any.
func TestChallengeOfAnother(t *testing.T) {
	for _, c := range []struct {
		name  string
		flags uint64
		ok    bool
	}{{"b@h", api.FlagsNeeded, true}, {"a@h", api.FlagsNeeded, false}, {"m@h", api.FlagsNeeded, false}, {"b@hh", api.FlagsNeeded, false}, {"b@h", api.FlagsNeeded &^ 4, false}, {"b@h", 0, false}} {
		for _, creation := range []uint32{0, 1} {
			x := played(t, toTrying+"come 1 status:ok 0 ->")
			want := "close 1; fail b@h"
			if c.ok {
				want = "send 1 reply:3:#1"
			}
			does(t, x, step{call: "come", stream: 1, bytes: message(api.Shake{Kind: api.HChallenge, Flags: c.flags, Creation: creation, Name: c.name, Challenge: 3})}, want)
		}
	}
}

// P21.5: a stream of one's own that was answered ok_simultaneous, or whose challenge has come, is the node's as any other.
func TestTryingTillUp(t *testing.T) {
	for _, bytes := range []string{"status:ok", "status:ok_simultaneous", "status:ok,challenge:b@h:3"} {
		x := played(t, toTrying+"send b@h x 0\n come 1 "+bytes+" 0\n conn b@h -> trying 1 1 0\n tick 239 ->")
		play(t, x, "tick 240 -> close 1; fail b@h")
	}
}
