package conn_test

import (
	"maps"
	"regexp"
	"slices"
	"strings"

	"heddle/api"
	"heddle/shake"
)

// model is the chapter told once more, plainly: every stream there ever was, and every node that was ever named, with all that is to be said of them.
type model struct {
	me     api.Peer
	cookie string
	next   func() uint32 // the next challenge
	lines  []*line
	others map[string]*other
	haps   []api.Hap
}

// line is a stream.
type line struct {
	number int
	gone   bool
	owner  *other // nil: a stranger's
	width  int
	bytes  string // that are in no frame yet
	side   *shake.Side
	mine   uint32 // the side's challenge
	since  int
}

// other is another node.
type other struct {
	name              string
	state             api.ConnState
	line              *line
	waits             []string
	wished            bool
	epoch             int
	since, sent, come int
	peer              api.Peer
}

func newModel(me api.Peer, cookie string, next func() uint32) *model {
	return &model{me: me, cookie: cookie, next: next, others: map[string]*other{}}
}

var isNodesName = regexp.MustCompile(`^[A-Za-z0-9_-]+@[A-Za-z0-9_.-]+$`)

// who is the node of a name.
func (m *model) who(name string) *other {
	if m.others[name] == nil {
		m.others[name] = &other{name: name}
	}
	return m.others[name]
}

// there are the streams that the table has.
func (m *model) there() []*line {
	all := slices.DeleteFunc(slices.Clone(m.lines), func(l *line) bool { return l.gone })
	slices.SortFunc(all, func(a, b *line) int { return a.number - b.number })
	return all
}

func (m *model) find(number int) *line {
	for _, l := range m.there() {
		if l.number == number {
			return l
		}
	}
	return nil
}

func (m *model) happens(kind api.HapKind, node string, stream int, bytes string) {
	m.haps = append(m.haps, api.Hap{Kind: kind, Node: node, Stream: stream, Bytes: []byte(bytes)})
}

// sends a body, in a frame.
func (m *model) sends(l *line, width int, body string) {
	n := len(body)
	ahead := string([]byte{byte(n >> 24), byte(n >> 16), byte(n >> 8), byte(n)})
	m.happens(api.YSend, "", l.number, ahead[4-width:]+body)
}

// ends a stream.
func (m *model) ends(l *line, closed bool) {
	if !closed {
		m.happens(api.YClose, "", l.number, "")
	}
	l.gone = true
	o := l.owner
	if o == nil {
		return
	}
	switch {
	case o.state == api.ConnUp:
		m.happens(api.YDown, o.name, 0, "")
	case o.state == api.ConnTrying, o.state == api.ConnTaken && o.wished:
		m.happens(api.YFail, o.name, 0, "")
	}
	o.none()
}

// none: nothing is left but how often it was up.
func (o *other) none() { *o = other{name: o.name, epoch: o.epoch} }

// fails: an attempt without a stream.
func (m *model) fails(o *other) {
	m.happens(api.YFail, o.name, 0, "")
	o.none()
}

// wrong is what is asked of every call, ahead of all else.
func (m *model) wrong(s step) api.Errno {
	has := func(calls string) bool { return strings.Contains(" "+calls+" ", " "+s.call+" ") }
	switch {
	case has("connect send opened accept come tick") && (s.now < 0 || s.now > 1<<40):
		return api.ErrRange
	case has("connect send opened refused break") && (len(s.node) > 64 || !isNodesName.MatchString(s.node) || s.node == m.me.Name):
		return api.ErrOther
	case has("opened accept come closed") && s.stream < 0:
		return api.ErrArg
	}
	return api.OK
}

// do is what a call comes to: what happens, or the number with which it is refused.
func (m *model) do(s step) ([]api.Hap, api.Errno) {
	if code := m.wrong(s); code != api.OK {
		return nil, code
	}
	m.haps = nil
	code := api.OK
	switch s.call {
	case "connect":
		if o := m.who(s.node); o.state != api.ConnUp {
			m.wishes(o)
		}
	case "send":
		code = m.send(m.who(s.node), s)
	case "opened":
		code = m.opened(m.who(s.node), s)
	case "refused":
		if o := m.who(s.node); o.state != api.ConnWanted {
			code = api.ErrConn
		} else {
			m.fails(o)
		}
	case "accept":
		if code = m.room(s); code == api.OK {
			l := m.begins(s)
			l.side, _ = shake.Wait(m.me, m.cookie, l.mine)
		}
	case "come":
		code = m.comes(m.find(s.stream), s)
	case "closed":
		if l := m.find(s.stream); l == nil {
			code = api.ErrNone
		} else {
			m.ends(l, true)
		}
	case "break":
		switch o := m.who(s.node); o.state {
		case api.ConnTrying, api.ConnTaken, api.ConnUp:
			m.ends(o.line, false)
		case api.ConnWanted, api.ConnAwaited:
			m.fails(o)
		}
	case "tick":
		m.tick(s.now)
	}
	return m.haps, code
}

func (m *model) wishes(o *other) {
	o.wished = true
	if o.state == api.ConnNone {
		o.state = api.ConnWanted
		m.happens(api.YOpen, o.name, 0, "")
	}
}

func (m *model) send(o *other, s step) api.Errno {
	switch {
	case len(s.bytes) == 0 || len(s.bytes) > 131072:
		return api.ErrLong
	case o.state == api.ConnUp:
		m.sends(o.line, 4, string(s.bytes))
		o.sent = s.now
	case len(o.waits) >= 4096:
		return api.ErrMany
	default:
		o.waits = append(o.waits, string(s.bytes))
		m.wishes(o)
	}
	return api.OK
}

func (m *model) room(s step) api.Errno {
	switch {
	case m.find(s.stream) != nil:
		return api.ErrTwice
	case s.call == "opened" && m.who(s.node).state != api.ConnWanted:
		return api.ErrConn
	case len(m.there()) >= 4096:
		return api.ErrMany
	}
	return api.OK
}

// begins a stream.
func (m *model) begins(s step) *line {
	l := &line{number: s.stream, width: 2, mine: m.next(), since: s.now}
	m.lines = append(m.lines, l)
	return l
}

func (m *model) opened(o *other, s step) api.Errno {
	if code := m.room(s); code != api.OK {
		return code
	}
	l := m.begins(s)
	var hello []byte
	l.side, hello, _ = shake.Begin(m.me, o.name, m.cookie, l.mine)
	l.owner = o
	o.state, o.line, o.since = api.ConnTrying, l, s.now
	m.sends(l, 2, string(hello))
	return api.OK
}

// comes: bytes on a stream.
func (m *model) comes(l *line, s step) api.Errno {
	if l == nil {
		return api.ErrNone
	}
	if l.owner != nil {
		l.owner.come = s.now
	}
	if len(l.bytes)+len(s.bytes) > 1<<24 {
		m.ends(l, false)
		return api.OK
	}
	l.bytes += string(s.bytes)
	for !l.gone && len(l.bytes) >= l.width {
		n := 0
		for _, c := range []byte(l.bytes[:l.width]) {
			n = n*256 + int(c)
		}
		switch most := map[int]int{2: 1024, 4: 131072}[l.width]; {
		case n > most:
			m.ends(l, false)
		case len(l.bytes) < l.width+n:
			return api.OK
		default:
			body := l.bytes[l.width : l.width+n]
			l.bytes = l.bytes[l.width+n:]
			m.frame(l, body, s.now)
		}
	}
	return api.OK
}

func (m *model) frame(l *line, body string, now int) {
	if l.width == 4 {
		if body != "" {
			m.happens(api.YFrame, l.owner.name, 0, body)
		}
		return
	}
	waited := l.side.Now().State
	answers, err := l.side.Take([]byte(body))
	switch {
	case err != nil && waited == api.WaitStatus && body == "snok":
		m.happens(api.YClose, "", l.number, "")
		l.gone = true
		l.owner.state, l.owner.line, l.owner.since = api.ConnAwaited, nil, now
		return
	case err != nil:
		m.ends(l, false)
		return
	}
	m.tells(l, answers)
	switch l.side.Now().State {
	case api.WaitAnswer:
		m.named(l, l.side.Now().Peer, now)
	case api.ShakeUp:
		m.rises(l, now)
	}
}

func (m *model) tells(l *line, messages [][]byte) {
	for _, b := range messages {
		m.sends(l, 2, string(b))
	}
}

// answers a name, and says whether the stream is the node's then.
func (m *model) answers(l *line, status string) {
	messages, _ := l.side.Answer(status)
	m.tells(l, messages)
}

func (m *model) named(l *line, p api.Peer, now int) {
	const needed = 0x4 | 0x8 | 0x100 | 0x10000 | 0x40000 | 0x1000000 | 0x2000000 | 0x100000000
	if p.Flags&needed != needed || p.Creation == 0 || p.Name == m.me.Name {
		m.answers(l, "ok")
		m.ends(l, false)
		return
	}
	o := m.who(p.Name)
	switch {
	case o.state == api.ConnUp:
		m.answers(l, "alive")
		m.ends(l, false)
		return
	case o.state == api.ConnTrying && m.me.Name > p.Name:
		m.answers(l, "nok")
		m.ends(l, false)
		return
	case o.state == api.ConnTrying:
		m.answers(l, "ok_simultaneous")
	default:
		m.answers(l, "ok")
	}
	if o.line != nil {
		m.happens(api.YClose, "", o.line.number, "")
		o.line.gone = true
	}
	l.owner = o
	o.state, o.line, o.since = api.ConnTaken, l, now
}

func (m *model) rises(l *line, now int) {
	o := l.owner
	l.width = 4
	o.state, o.epoch, o.sent, o.come, o.peer, o.wished = api.ConnUp, o.epoch+1, now, now, l.side.Now().Peer, false
	m.happens(api.YUp, o.name, 0, "")
	for _, body := range o.waits {
		m.sends(l, 4, body)
	}
	o.waits = nil
}

func (m *model) tick(now int) {
	for _, name := range slices.Sorted(maps.Keys(m.others)) {
		o := m.others[name]
		switch {
		case o.state == api.ConnUp && now-o.come >= 240:
			m.ends(o.line, false)
		case o.state == api.ConnUp && now-o.sent >= 60:
			o.sent = now
			m.sends(o.line, 4, "")
		case (o.state == api.ConnTrying || o.state == api.ConnTaken) && now-o.since >= 240:
			m.ends(o.line, false)
		case o.state == api.ConnAwaited && now-o.since >= 240:
			m.fails(o)
		}
	}
	for _, l := range m.there() {
		if l.owner == nil && now-l.since >= 240 {
			m.ends(l, false)
		}
	}
}

// What is to be seen of the model.

func (m *model) Up() []string {
	var all []string
	for _, name := range slices.Sorted(maps.Keys(m.others)) {
		if m.others[name].state == api.ConnUp {
			all = append(all, name)
		}
	}
	return all
}

func (m *model) Conn(node string) api.Conn {
	o := m.others[node]
	if o == nil {
		return api.Conn{}
	}
	c := api.Conn{State: o.state, Pending: len(o.waits), Epoch: o.epoch}
	switch o.state {
	case api.ConnUp:
		c.Peer = o.peer
		fallthrough
	case api.ConnTrying, api.ConnTaken:
		c.Stream = o.line.number
	}
	return c
}

func (m *model) Streams() []int {
	var all []int
	for _, l := range m.there() {
		all = append(all, l.number)
	}
	return all
}
