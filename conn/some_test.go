package conn_test

import (
	"errors"
	"fmt"
	"slices"
	"strconv"
	"strings"
	"testing"

	"heddle/api"
	"heddle/conn"
	"heddle/frame"
	"heddle/mix"
	"heddle/sample"
	"heddle/shake"
)

// Most tests are about a table of m@h: of the other names one is ahead of it, one behind it.
const (
	cookie = "secret"
	seed   = 5
)

// somebody is who has a name; this node and all others have the same flags, and their own creations.
func somebody(name string) api.Peer {
	creation := uint32(7)
	if name != "m@h" {
		creation = uint32(name[0])
	}
	return api.Peer{Name: name, Flags: api.FlagsNeeded | 1<<40, Creation: creation}
}

// challenges are the first ones of the table's generator.
var challenges = func() []uint32 {
	var all []uint32
	g := mix.New(seed)
	for range 40 {
		n, _ := g.Next()
		all = append(all, n)
	}
	return all
}()

// value is a challenge by its short text: #1 is the table's first one, all others are themselves.
func value(s string) uint32 {
	text, own := strings.CutPrefix(s, "#")
	n, err := strconv.ParseUint(text, 10, 32)
	if err != nil {
		panic("no challenge: " + s)
	}
	if own {
		return challenges[n-1]
	}
	return uint32(n)
}

// short is the short text of a challenge.
func short(n uint32) string {
	if i := slices.Index(challenges, n); i >= 0 {
		return "#" + strconv.Itoa(i+1)
	}
	return strconv.FormatUint(uint64(n), 10)
}

// digestOf is that of the cookie and a challenge.
func digestOf(n uint32) []byte {
	d, _ := mix.Digest(cookie, n)
	return d
}

// shown is the challenge of which a digest is one, if it is one that tests use.
func shown(digest []byte) string {
	for n := range uint32(40) {
		for _, c := range []uint32{n, challenges[n]} {
			if string(digestOf(c)) == string(digest) {
				return short(c)
			}
		}
	}
	return "?"
}

// unpack are bytes by words, with commas between them: `name:a@h`, `status:ok`, `challenge:a@h:3`, `reply:#1:4` and `ack:#1` (digests of #1) are messages of the handshake, each in a frame; `tick` and `body:xy` are frames behind it; `narrow:xy` is any frame of the handshake, `raw:xy` are bytes.
func unpack(text string) []byte {
	var b []byte
	for word := range strings.SplitSeq(text, ",") {
		b = append(b, unpackOne(word)...)
	}
	return b
}

func unpackOne(word string) []byte {
	f := append(strings.Split(word, ":"), "", "")
	switch f[0] {
	case "", "raw":
		return []byte(f[1])
	case "narrow":
		return framed(2, []byte(f[1]))
	case "body", "tick":
		return framed(4, []byte(f[1]))
	case "name":
		return message(api.Shake{Kind: api.HName, Flags: somebody(f[1]).Flags, Creation: somebody(f[1]).Creation, Name: f[1]})
	case "status":
		return message(api.Shake{Kind: api.HStatus, Status: f[1]})
	case "challenge":
		return message(api.Shake{Kind: api.HChallenge, Flags: somebody(f[1]).Flags, Creation: somebody(f[1]).Creation, Name: f[1], Challenge: value(f[2])})
	case "reply":
		return message(api.Shake{Kind: api.HReply, Digest: digestOf(value(f[1])), Challenge: value(f[2])})
	case "ack":
		return message(api.Shake{Kind: api.HAck, Digest: digestOf(value(f[1]))})
	}
	panic("no bytes: " + word)
}

func framed(width int, body []byte) []byte {
	b, err := frame.Frame(width, body)
	if err != nil {
		panic(err)
	}
	return b
}

// message is one in a frame.
func message(m api.Shake) []byte {
	b, err := shake.Write(m)
	if err != nil {
		panic(err)
	}
	return framed(2, b)
}

// pack are the words of bytes that are one frame.
func pack(b []byte) string {
	if bodies, n, err := frame.Split(2, b); err == nil && len(bodies) == 1 && n == len(b) {
		for k := api.HName; k <= api.HAck; k++ {
			if m, err := shake.Read(k, bodies[0]); err == nil {
				return packMessage(m)
			}
		}
	}
	bodies, n, err := frame.Split(4, b)
	switch {
	case err != nil || len(bodies) != 1 || n != len(b):
		return fmt.Sprintf("no frame: %.60q", b)
	case n == 4:
		return "tick"
	}
	return fmt.Sprintf("body:%.60s", bodies[0])
}

func packMessage(m api.Shake) string {
	who := ""
	if m.Kind == api.HName || m.Kind == api.HChallenge {
		who = ":" + m.Name
		if p := somebody(m.Name); p.Flags != m.Flags || p.Creation != m.Creation {
			who += fmt.Sprintf("(%#x %d)", m.Flags, m.Creation)
		}
	}
	switch m.Kind {
	case api.HName:
		return "name" + who
	case api.HStatus:
		return "status:" + m.Status
	case api.HChallenge:
		return "challenge" + who + ":" + short(m.Challenge)
	case api.HReply:
		return "reply:" + shown(m.Digest) + ":" + short(m.Challenge)
	}
	return "ack:" + shown(m.Digest)
}

// step is one call, with all that it is given.
type step struct {
	call   string
	node   string
	stream int
	bytes  []byte // a body, or what has come
	now    int
}

// perform is the call, of a table.
func (s step) perform(x *conn.Table) ([]api.Hap, error) {
	switch s.call {
	case "connect":
		return x.Connect(s.node, s.now)
	case "send":
		return x.Send(s.node, s.bytes, s.now)
	case "opened":
		return x.Opened(s.node, s.stream, s.now)
	case "refused":
		return x.Refused(s.node)
	case "accept":
		return nil, x.Accept(s.stream, s.now)
	case "come":
		return x.Come(s.stream, s.bytes, s.now)
	case "closed":
		return x.Closed(s.stream)
	case "tick":
		return x.Tick(s.now)
	case "break":
		return x.Break(s.node)
	}
	panic("no call: " + s.call)
}

func (s step) String() string {
	return fmt.Sprintf("%s %.80q %d %.100q (%d) %d", s.call, s.node, s.stream, s.bytes, len(s.bytes), s.now)
}

// makeStep is the call of words: connect NODE NOW; send NODE BODY NOW; opened NODE STREAM NOW; refused NODE; accept STREAM NOW; come STREAM BYTES NOW; closed STREAM; tick NOW; break NODE. A - is no bytes.
func makeStep(words []string) step {
	s := step{call: words[0]}
	for i, field := range strings.Fields(map[string]string{"connect": "node now", "send": "node body now", "opened": "node stream now", "refused": "node", "accept": "stream now", "come": "stream bytes now", "closed": "stream", "tick": "now", "break": "node"}[s.call]) {
		text := words[i+1]
		switch field {
		case "node":
			s.node = text
		case "body":
			s.bytes = []byte(text)
		case "bytes":
			s.bytes = unpack(strings.TrimPrefix(text, "-"))
		case "stream":
			s.stream = number(text)
		case "now":
			s.now = number(text)
		}
	}
	return s
}

func number(s string) int {
	n, err := strconv.Atoi(s)
	if err != nil {
		panic(err)
	}
	return n
}

// tell is what happens, short.
func tell(haps []api.Hap) string {
	var texts []string
	for _, h := range haps {
		texts = append(texts, tellOne(h))
	}
	return strings.Join(texts, "; ")
}

// Fields that a kind does not name are zero.
func tellOne(h api.Hap) string {
	text, named := "", api.Hap{Kind: h.Kind}
	switch h.Kind {
	case api.YOpen, api.YUp, api.YDown, api.YFail:
		text = map[api.HapKind]string{api.YOpen: "open ", api.YUp: "up ", api.YDown: "down ", api.YFail: "fail "}[h.Kind] + h.Node
		named.Node = h.Node
	case api.YSend:
		text = "send " + strconv.Itoa(h.Stream) + " " + pack(h.Bytes)
		named.Stream, named.Bytes = h.Stream, h.Bytes
	case api.YClose:
		text = "close " + strconv.Itoa(h.Stream)
		named.Stream = h.Stream
	case api.YFrame:
		text = fmt.Sprintf("frame %s:%.60s", h.Node, h.Bytes)
		named.Node, named.Bytes = h.Node, h.Bytes
	}
	if !sameHap(h, named) {
		return fmt.Sprintf("%s with %+v", text, h)
	}
	return text
}

func sameHap(a, b api.Hap) bool {
	return a.Kind == b.Kind && a.Node == b.Node && a.Stream == b.Stream && string(a.Bytes) == string(b.Bytes)
}

func sameHaps(a, b []api.Hap) bool { return slices.EqualFunc(a, b, sameHap) }

// asker is what is asked for all that is to be seen.
type asker interface {
	Up() []string
	Conn(node string) api.Conn
	Streams() []int
}

var states = map[api.ConnState]string{api.ConnNone: "none", api.ConnWanted: "wanted", api.ConnTrying: "trying", api.ConnAwaited: "awaited", api.ConnTaken: "taken", api.ConnUp: "up"}

func stateNamed(name string) api.ConnState {
	for state, s := range states {
		if s == name {
			return state
		}
	}
	panic("no state: " + name)
}

// tellConn is what is known of a connection: its state, the stream, how many bodies wait, the epoch, the peer.
func tellConn(c api.Conn) string {
	text := fmt.Sprintf("%s %d %d %d", states[c.State], c.Stream, c.Pending, c.Epoch)
	if c.Peer == (api.Peer{}) {
		return text
	}
	if c.Peer != somebody(c.Peer.Name) {
		return text + fmt.Sprintf(" %+v", c.Peer)
	}
	return text + " " + c.Peer.Name
}

// asked is what a table tells of words: up, streams, conn NODE.
func asked(x asker, words []string) (string, bool) {
	switch words[0] {
	case "up":
		return strings.Join(x.Up(), " "), true
	case "streams":
		return strings.Trim(fmt.Sprint(x.Streams()), "[]"), true
	case "conn":
		return tellConn(x.Conn(words[1])), true
	}
	return "", false
}

// names are those that tests use.
var names = []string{"a@h", "b@h", "m@h", "n@h", "z@h", "", "a", "@"}

// look is all that is to be seen.
func look(x asker) string {
	text := fmt.Sprint("up ", x.Up(), " streams ", x.Streams())
	for _, name := range names {
		text += "; " + name + " " + tellConn(x.Conn(name))
	}
	return text
}

// open is the table of m@h.
func open(t testing.TB) *conn.Table {
	t.Helper()
	x, err := conn.New(somebody("m@h"), cookie, seed)
	if err != nil || x == nil {
		t.Fatalf("New: %v, %v", x, err)
	}
	return x
}

// played is that table behind calls.
func played(t testing.TB, text string) *conn.Table {
	t.Helper()
	x := open(t)
	play(t, x, text)
	return x
}

// play does calls, a line each, and holds what each comes to: `CALL -> ANSWER`. A number behind `!` is that with which a call is refused: then nothing is to be seen of it. Of a line without an arrow only that it is not refused is held.
func play(t testing.TB, x *conn.Table, text string) {
	t.Helper()
	for line := range strings.Lines(text) {
		line = strings.TrimSpace(line)
		if line == "" {
			continue
		}
		call, want, held := strings.Cut(line, " ->")
		want = strings.TrimSpace(want)
		words := strings.Fields(call)
		if got, ok := asked(x, words); ok {
			if got != want {
				t.Fatalf("%s: got %s", line, got)
			}
			continue
		}
		before := look(x)
		haps, err := makeStep(words).perform(x)
		if code, wrong := strings.CutPrefix(want, "!"); wrong {
			var outer *api.Fault
			if !errors.As(err, &outer) || outer.Layer != "conn" || outer.At != 0 || outer.Under != nil || strconv.Itoa(int(outer.Code)) != code || haps != nil || look(x) != before {
				t.Fatalf("%s: %s, %v; %s was %s", line, tell(haps), err, look(x), before)
			}
			continue
		}
		if got := tell(haps); err != nil || held && got != want {
			t.Fatalf("%s: got %s, %v", line, got, err)
		}
	}
}

func done(t testing.TB, what string, err error) {
	t.Helper()
	if err != nil {
		t.Fatalf("%s: %v", what, err)
	}
}

// fault is one of this layer.
func fault(code api.Errno) api.Fault { return api.Fault{Layer: "conn", Code: code} }

// refused: a call is refused with just that number, tells nothing else, and changes nothing that is to be seen.
func refused(t testing.TB, x *conn.Table, s step, code api.Errno) {
	t.Helper()
	before := look(x)
	haps, err := s.perform(x)
	if haps != nil || !sample.IsFault(err, fault(code)) {
		t.Fatalf("%v: %s, %v, want errno %d", s, tell(haps), err, code)
	}
	if after := look(x); after != before {
		t.Fatalf("%v: %s was %s", s, after, before)
	}
}

// does holds what a call comes to that is not refused.
func does(t testing.TB, x *conn.Table, s step, want string) {
	t.Helper()
	haps, err := s.perform(x)
	if got := tell(haps); err != nil || got != want {
		t.Fatalf("%v: %s, %v, want %s", s, got, err, want)
	}
}

// Ways to states of b@h, at the time 0, with so many bodies that wait: the streams are 1, or 2 of others.
const (
	toNone    = ``
	toWanted  = "connect b@h 0 -> open b@h\n"
	toTrying  = toWanted + "opened b@h 1 0 -> send 1 name:m@h\n"
	toAwaited = toTrying + "come 1 status:nok 0 -> close 1\n"
	toTaken   = "accept 1 0\n come 1 name:b@h 0 -> send 1 status:ok; send 1 challenge:m@h:#1\n"
	toWished  = toWanted + toTaken // taken, and wished
	toUp      = toTaken + "come 1 reply:#1:3 0 -> send 1 ack:3; up b@h\n"
	toOwn     = toTrying + "come 1 status:ok,challenge:b@h:3,ack:#1 0 -> send 1 reply:3:#1; up b@h\n" // up, by this node's attempt
)

// ways are those of all states.
func ways() map[string]string {
	return map[string]string{"none": toNone, "wanted": toWanted, "trying": toTrying, "awaited": toAwaited, "taken": toTaken, "up": toUp}
}

// digestTo is the reply, in a frame, to a challenge in a frame.
func digestTo(t testing.TB, b []byte) []byte {
	t.Helper()
	m, err := shake.Read(api.HChallenge, b[2:])
	done(t, "Read", err)
	return message(api.Shake{Kind: api.HReply, Digest: digestOf(m.Challenge), Challenge: 3})
}
