package conn_test

import (
	"math/rand"
	"slices"
	"testing"

	"heddle/api"
	"heddle/conn"
	"heddle/luck"
	"heddle/mix"
	"heddle/sample"
	"heddle/shake"
)

// pair is a table and its model, and the calls that were done to both.
type pair struct {
	x    *conn.Table
	m    *model
	path []string
}

func couple(t testing.TB) *pair {
	t.Helper()
	g := mix.New(seed)
	next := func() uint32 {
		n, _ := g.Next()
		return n
	}
	return &pair{x: open(t), m: newModel(somebody("m@h"), cookie, next)}
}

// fatal tells what was done last.
func (p *pair) fatal(t testing.TB, what string) {
	t.Helper()
	text := ""
	for _, s := range p.path[max(0, len(p.path)-40):] {
		text += s + "\n"
	}
	t.Fatalf("%s%s", text, what)
}

// try does a call to both: they agree on all that is told, and on all that is to be seen then. What was handed in and what was told is written over.
func (p *pair) try(t testing.TB, s step) ([]api.Hap, api.Errno) {
	t.Helper()
	want, code := p.m.do(s)
	p.path = append(p.path, s.String()+" -> "+tell(want))
	got, err := handed(t, p.x, s)
	var chain []api.Fault
	if code != api.OK {
		chain = []api.Fault{fault(code)}
	}
	if !sameHaps(got, want) || !sample.IsFault(err, chain...) {
		text := "tells " + tell(got)
		if err != nil {
			text += " " + err.Error()
		}
		p.fatal(t, text)
	}
	scribble(t, got)
	if got, want := look(p.x), look(p.m); got != want {
		p.fatal(t, got+"\nwant "+want)
	}
	return want, code
}

// chance makes calls: most of them are what a table is for, some are wrong.
type chance struct {
	choose luck.Choose
	m      *model
	now    int
	rest   map[*line][]byte // what the other side has sent, and has not come
}

func chanceOf(choose luck.Choose, m *model) *chance {
	return &chance{choose: choose, m: m, rest: map[*line][]byte{}}
}

func pick[T any](c *chance, all ...T) T { return all[c.choose(len(all))] }

func (c *chance) one(in int) bool { return c.choose(in) == 0 }

// anybody is another node; seldom it is none.
func (c *chance) anybody() string {
	if c.one(40) {
		return pick(c, "m@h", "", "a", "@", "b@h@h")
	}
	return pick(c, "a@h", "b@h", "b@h", "n@h", "z@h")
}

// some is a node in that state, if there is one.
func (c *chance) some(state api.ConnState) string {
	for _, name := range []string{"a@h", "b@h", "n@h", "z@h"} {
		if o := c.m.others[name]; o != nil && o.state == state && !c.one(3) {
			return name
		}
	}
	return c.anybody()
}

// time goes on slowly, most often; sometimes it leaps, and seldom it goes back.
func (c *chance) time() int {
	switch n := c.choose(60); {
	case n == 0:
		return pick(c, -1, api.MaxClock+1, api.MaxClock, 0)
	case n == 1:
		return c.now / 2
	case n < 4:
		c.now += pick(c, 60, 239, 240, 241)
	case n < 14:
		c.now += c.choose(20)
	}
	return c.now
}

// stream is one that the table has, most often.
func (c *chance) stream() int {
	if there := c.m.there(); len(there) > 0 && !c.one(20) {
		return pick(c, there...).number
	}
	return pick(c, 0, 3, 5, 12, -1)
}

// fresh is one that it has not, most often.
func (c *chance) fresh() int {
	if c.one(20) {
		return c.stream()
	}
	for {
		if n := c.choose(60); c.m.find(n) == nil || c.one(50) {
			return n
		}
	}
}

// sent is what the other side of a stream sends next, right or wrong, and perhaps what stands behind it.
func (c *chance) sent(l *line) []byte {
	var b []byte
	state := l.side.Now().State
	for range 1 + c.choose(6) {
		if l.width == 4 || state == api.ShakeUp {
			b = append(b, c.body()...)
			continue
		}
		next, told := c.message(l, state)
		state = next
		b = append(b, told...)
	}
	return b
}

func (c *chance) body() []byte {
	if c.one(40) {
		return pick(c, []byte{0, 2, 0, 1}, []byte{255, 0, 0, 0}, []byte("raw"))
	}
	return unpack(pick(c, "tick", "body:x", "body:heddle", "body:y"))
}

// message is the one that is awaited, and what is awaited behind it; sometimes it is another one.
func (c *chance) message(l *line, state api.ShakeState) (api.ShakeState, []byte) {
	if c.one(15) {
		return state, c.wrong()
	}
	switch state {
	case api.WaitStatus:
		return api.WaitChallenge, unpack("status:" + pick(c, "ok", "ok", "ok_simultaneous", "nok", "nok", "alive", "not_allowed"))
	case api.WaitChallenge:
		return api.WaitAck, unpack("challenge:" + pick(c, l.owner.name, l.owner.name, l.owner.name, l.owner.name, "a@h") + ":" + pick(c, "3", "#1", "#2"))
	case api.WaitAck:
		return api.ShakeUp, message(api.Shake{Kind: api.HAck, Digest: digestOf(l.mine)})
	case api.WaitName:
		return api.WaitReply, c.name()
	}
	return api.ShakeUp, message(api.Shake{Kind: api.HReply, Digest: digestOf(l.mine), Challenge: uint32(c.choose(9))})
}

func (c *chance) name() []byte {
	p := somebody(pick(c, "a@h", "b@h", "b@h", "n@h", "n@h", "z@h"))
	switch c.choose(24) {
	case 0:
		p.Flags &^= 8
	case 1:
		p.Creation = 0
	case 2:
		p.Name = "m@h"
	}
	return message(api.Shake{Kind: api.HName, Flags: p.Flags, Creation: p.Creation, Name: p.Name})
}

func (c *chance) wrong() []byte {
	b := unpack(pick(c, append(messages, "narrow:", "narrow:x", "raw:\x04\x01", "raw:\xff\xff", "tick", "body:x", "status:alive")...))
	if c.one(2) {
		b[c.choose(len(b))] ^= 1 << c.choose(8)
	}
	return b
}

// come is a call with what comes next on a stream: all of it, or a piece.
func (c *chance) come() step {
	s := step{call: "come", stream: c.stream(), now: c.time()}
	l := c.m.find(s.stream)
	if l == nil {
		return s
	}
	if c.rest[l] == nil {
		c.rest[l] = c.sent(l)
	}
	all := c.rest[l]
	n := len(all)
	if c.one(3) {
		n = c.choose(n + 1)
	}
	s.bytes = all[:n]
	c.rest[l] = all[n:]
	if n == len(all) {
		delete(c.rest, l)
	}
	return s
}

// step is one call.
func (c *chance) step() step {
	switch n := c.choose(100); {
	case n < 45:
		return c.come()
	case n < 59:
		return step{call: "accept", stream: c.fresh(), now: c.time()}
	case n < 63:
		return step{call: "connect", node: c.anybody(), now: c.time()}
	case n < 75:
		return step{call: "send", node: c.anybody(), bytes: []byte(pick(c, "one", "two", "three", "four", "five", "")), now: c.time()}
	case n < 84:
		return step{call: "opened", node: c.some(api.ConnWanted), stream: c.fresh(), now: c.time()}
	case n < 86:
		return step{call: "refused", node: c.some(api.ConnWanted)}
	case n < 89:
		return step{call: "closed", stream: c.stream()}
	case n < 91:
		return step{call: "break", node: c.anybody()}
	}
	return step{call: "tick", now: c.time()}
}

// tally is how often what was met.
type tally struct {
	calls  map[string]int
	codes  map[api.Errno]int
	haps   map[api.HapKind]int
	states map[api.ConnState]int
	told   map[string]int // messages of the handshake that were told
}

func newTally() tally {
	return tally{map[string]int{}, map[api.Errno]int{}, map[api.HapKind]int{}, map[api.ConnState]int{}, map[string]int{}}
}

func (y tally) count(s step, m *model, haps []api.Hap, code api.Errno) {
	y.codes[code]++
	if code == api.OK {
		y.calls[s.call]++
	}
	for _, h := range haps {
		y.haps[h.Kind]++
		if m, err := shake.Read(api.HStatus, h.Bytes[min(2, len(h.Bytes)):]); err == nil {
			y.told[m.Status]++
		}
	}
	for _, o := range m.others {
		y.states[o.state]++
	}
}

func (y tally) enough(t *testing.T) {
	t.Helper()
	for _, call := range []string{"connect", "send", "opened", "refused", "accept", "come", "closed", "tick", "break"} {
		if y.calls[call] < 300 {
			t.Errorf("%s is seldom done: %v", call, y.calls)
		}
	}
	for _, code := range []api.Errno{api.OK, api.ErrArg, api.ErrRange, api.ErrLong, api.ErrTwice, api.ErrNone, api.ErrConn, api.ErrOther} {
		if y.codes[code] < 100 {
			t.Errorf("errno %d is seldom met: %v", code, y.codes)
		}
	}
	for kind := api.YOpen; kind <= api.YFail; kind++ {
		if y.haps[kind] < 300 {
			t.Errorf("kinds: %v", y.haps)
		}
	}
	for state := range states {
		if y.states[state] < 500 {
			t.Errorf("states: %v", y.states)
		}
	}
	for _, status := range []string{"ok", "ok_simultaneous", "nok", "not_allowed", "alive"} {
		if y.told[status] < 50 {
			t.Errorf("statuses: %v", y.told)
		}
	}
}

// Acts of chance, of two tables in turn, that know nothing of one another (rule 5).
func TestChance(t *testing.T) {
	met := newTally()
	for seed := range int64(60) {
		r := rand.New(rand.NewSource(seed))
		two := [2]*pair{couple(t), couple(t)}
		lucks := [2]*chance{chanceOf(r.Intn, two[0].m), chanceOf(r.Intn, two[1].m)}
		for range 1500 {
			i := r.Intn(2)
			s := lucks[i].step()
			haps, code := two[i].try(t, s)
			met.count(s, two[i].m, haps, code)
		}
		for _, p := range two {
			p.finish(t)
		}
	}
	met.enough(t)
}

// finish lets all that is left come to its end: that tells of what else is not to be seen.
func (p *pair) finish(t testing.TB) {
	t.Helper()
	for _, l := range p.m.there() {
		if l.width == 2 {
			p.try(t, step{call: "come", stream: l.number, bytes: message(api.Shake{Kind: api.HReply, Digest: digestOf(l.mine), Challenge: 3})})
		}
	}
	for _, now := range []int{60, 120, 239, 240, 1 << 39, 1 << 40} {
		p.try(t, step{call: "tick", now: now})
	}
	for _, name := range names[:5] {
		p.try(t, step{call: "break", node: name})
	}
	// Whoever came at the last times is there still.
	for _, l := range p.m.there() {
		p.try(t, step{call: "closed", stream: l.number})
	}
}

// FuzzCalls takes bytes as choices of calls.
func FuzzCalls(f *testing.F) {
	f.Add([]byte("heddle connections"))
	for seed := range int64(10) {
		b := make([]byte, 400)
		rand.New(rand.NewSource(seed)).Read(b)
		f.Add(b)
	}
	f.Fuzz(func(t *testing.T, b []byte) {
		choices := luck.Bytes(b[:min(len(b), 2000)]) // more of them take long, and tell no more
		p := couple(t)
		c := chanceOf(choices.Choose, p.m)
		for len(choices) > 0 {
			p.try(t, c.step())
		}
		p.finish(t)
	})
}

// FuzzStranger takes bytes as what a stranger sends, and what comes on an attempt of one's own: nobody is up, and no body comes.
func FuzzStranger(f *testing.F) {
	f.Add(unpack("name:b@h,reply:3:3,body:x"), []byte("1"))
	f.Add(unpack("status:ok,challenge:b@h:3,ack:4,body:x"), []byte{7, 40})
	f.Fuzz(func(t *testing.T, b, cuts []byte) {
		for _, way := range []string{"accept 1 0", toTrying, toTaken, toWished} {
			p := couple(t)
			play(t, p.x, way)
			stranger(t, p.x, b, cuts)
		}
	})
}

// stranger lets bytes come on the stream 1 in pieces, as long as it is there.
func stranger(t testing.TB, x *conn.Table, b, cuts []byte) {
	t.Helper()
	choices := luck.Bytes(cuts)
	for len(b) > 0 && slices.Contains(x.Streams(), 1) {
		n := 1 + choices.Choose(len(b))
		haps, err := x.Come(1, b[:n], 0)
		done(t, "Come", err)
		b = b[n:]
		for _, h := range haps {
			if h.Kind == api.YUp || h.Kind == api.YFrame || h.Kind == api.YDown {
				t.Fatal(tell(haps))
			}
		}
		if len(x.Up()) > 0 {
			t.Fatal(x.Up())
		}
	}
}
