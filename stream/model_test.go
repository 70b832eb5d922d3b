package stream_test

import (
	"errors"
	"math"
	"math/rand"
	"strconv"
	"testing"

	"heddle/api"
	"heddle/stream"
)

// model is a stream told once more, by counts alone: nothing is ever moved in it. Of each end's bytes all that it ever sent are kept, and how many of them, from the first on, have come across and are read there.
type model struct {
	ends [2]course
	shut bool
}

type course struct {
	sent    string
	came    int // of sent, at the other end
	read    int // of sent, by the other end
	lost    int // of sent
	stalled bool
}

func (m *model) under(end int) int {
	return len(m.ends[end].sent) - m.ends[end].came - m.ends[end].lost
}

func (m *model) come(end int) int { return m.ends[1-end].came - m.ends[1-end].read }

func (m *model) state(end int) api.Pipe {
	own, other := m.ends[end], m.ends[1-end]
	return api.Pipe{Under: m.under(end), Come: m.come(end), Sent: len(own.sent), Moved: other.came, ReadAll: other.read, Stalled: own.stalled, Closed: m.shut}
}

// step is one call: what it is, and its arguments.
type step struct {
	call byte
	end  int
	n    int
	text string
}

func (x step) String() string {
	return string(x.call) + " " + strconv.Itoa(x.end) + " " + strconv.Itoa(x.n) + " " + strconv.Quote(x.text)
}

// first: the number of the first of the conditions that holds.
func first(conditions ...any) api.Errno {
	for i := 0; i < len(conditions); i += 2 {
		if conditions[i].(bool) {
			return conditions[i+1].(api.Errno)
		}
	}
	return api.OK
}

// code: with which number a call is refused, as the chapter lists them.
func (m *model) code(x step) api.Errno {
	if x.call != 'b' && x.end != 0 && x.end != 1 {
		return api.ErrRange
	}
	switch x.call {
	case 's':
		return first(m.shut, api.ErrClosed, m.under(x.end)+len(x.text) > api.MaxStream, api.ErrLong)
	case 'm':
		return first(m.shut, api.ErrClosed, x.n < 0, api.ErrArg, m.ends[x.end].stalled, api.ErrStalled,
			m.under(x.end) < x.n, api.ErrMoves, x.n > api.MaxStream-m.come(1-x.end), api.ErrMany)
	case 'r':
		return first(x.n < 0, api.ErrArg, m.shut && m.come(x.end) == 0, api.ErrEnd)
	}
	return first(m.shut, api.ErrClosed)
}

// do: what a call that is not refused does; what it reads.
func (m *model) do(x step) string {
	switch x.call {
	case 's':
		m.ends[x.end].sent += x.text
	case 'm':
		m.ends[x.end].came += x.n
	case 't':
		m.ends[x.end].stalled = x.n != 0
	case 'r':
		c := &m.ends[1-x.end]
		from := c.read
		c.read = min(c.came, from+min(x.n, len(c.sent)))
		return c.sent[from:c.read]
	case 'c':
		m.ends[x.end].came += m.under(x.end)
		m.lose()
	case 'b':
		m.lose()
	}
	return ""
}

func (m *model) lose() {
	for end := range m.ends {
		m.ends[end].lost += m.under(end)
	}
	m.shut = true
}

// perform: the call, of the stream itself.
func (x step) perform(s *stream.Stream) (string, error) {
	switch x.call {
	case 's':
		return "", s.Send(x.end, []byte(x.text))
	case 'm':
		return "", s.Move(x.end, x.n)
	case 't':
		return "", s.Stall(x.end, x.n != 0)
	case 'c':
		return "", s.Close(x.end)
	case 'b':
		return "", s.Break()
	}
	b, err := s.Read(x.end, x.n)
	return string(b), err
}

// pair is a stream and its model, and all that was read of both ends.
type pair struct {
	s    *stream.Stream
	m    model
	read [2]string
	path []step
}

// try does a call to both: they agree on all that is to be seen.
func (p *pair) try(t *testing.T, x step) {
	t.Helper()
	p.path = append(p.path, x)
	want, text := p.m.code(x), ""
	if want == api.OK {
		text = p.m.do(x)
	}
	got, err := x.perform(p.s)
	var fault *api.Fault
	switch {
	case want == api.OK && err != nil, got != text:
		t.Fatalf("%v: %.40q, %v, want %.40q, errno %d", p.path, got, err, text, want)
	case want != api.OK && (!errors.As(err, &fault) || *fault != (api.Fault{Layer: "stream", Code: want})):
		t.Fatalf("%v: %v, want errno %d of layer stream at 0", p.path, err, want)
	}
	if x.call == 'r' && err == nil {
		p.read[x.end] += got
	}
	p.compare(t)
}

// compare holds both ends' states against the model's, P5.8 and P5.9 among them.
func (p *pair) compare(t *testing.T) {
	t.Helper()
	now := states(t, p.s)
	for end := range 2 {
		if want := p.m.state(end); now[end] != want {
			t.Fatalf("%v: State(%d) = %+v, want %+v", p.path, end, now[end], want)
		}
		sent, read := p.m.ends[1-end].sent, p.read[end]
		if len(read) > len(sent) || sent[:len(read)] != read {
			t.Fatalf("%v: end %d reads %.40q, but %.40q was sent", p.path, end, read, sent)
		}
		if !now[end].Closed && now[end].Sent != now[1-end].Moved+now[end].Under {
			t.Fatalf("%v: bytes are lost in an open stream: %+v", p.path, now)
		}
	}
}

// drain reads what has come to both ends, so that what is held is seen, too.
func (p *pair) drain(t *testing.T) {
	t.Helper()
	for end := range 2 {
		p.try(t, step{call: 'r', end: end, n: math.MaxInt})
		p.try(t, step{call: 'r', end: end, n: 0})
	}
}

// again: a new pair, on which those calls were done.
func again(t *testing.T, path []step) *pair {
	t.Helper()
	p := &pair{s: stream.New()}
	for _, x := range path {
		p.try(t, x)
	}
	return p
}

// Every row of up to three calls of a small set, ends -1 and 2 among them, and then an ending of each kind.
func TestAllShortRows(t *testing.T) {
	var calls []step
	for end := range 2 {
		text := []string{"ab", "yz"}[end]
		calls = append(calls, step{'s', end, 0, text}, step{'m', end, 1, ""}, step{'m', end, 0, ""}, step{'m', end, 3, ""},
			step{'t', end, 1, ""}, step{'t', end, 0, ""}, step{'r', end, 1, ""}, step{'r', end, -1, ""}, step{'c', end, 0, ""})
	}
	calls = append(calls, step{'b', 0, 0, ""}, step{'m', 0, -1, ""}, step{'s', 2, 0, "x"}, step{'c', -1, 0, ""})
	var walk func(path []step, depth int)
	walk = func(path []step, depth int) {
		for _, last := range []step{{'c', 0, 0, ""}, {'c', 1, 0, ""}, {'b', 0, 0, ""}} {
			p := again(t, path)
			p.drain(t)
			p.try(t, last)
			p.drain(t)
		}
		if depth == 0 || t.Failed() {
			return
		}
		for _, x := range calls {
			walk(append(path[:len(path):len(path)], x), depth-1)
		}
	}
	walk(nil, 3)
}

// some: a call of random kind and arguments; few of them end the stream.
func some(r *rand.Rand, most int) step {
	x := step{call: "ssssmmmmmrrrrtttcb"[r.Intn(18)], end: r.Intn(2), n: r.Intn(most)}
	if (x.call == 'c' || x.call == 'b') && r.Intn(20) > 0 {
		x.call = 'm'
	}
	switch r.Intn(40) {
	case 0:
		x.end = []int{-1, 2, math.MinInt, math.MaxInt}[r.Intn(4)]
	case 1:
		x.n = []int{-1, math.MinInt, math.MaxInt}[r.Intn(3)]
	}
	switch x.call {
	case 's':
		b := make([]byte, r.Intn(most))
		for i := range b {
			b[i] = byte(r.Intn(256))
		}
		x.text = string(b)
	case 't':
		x.n = max(0, r.Intn(4)-2)
	}
	return x
}

// Long rows of random calls, of two streams in turn, that know nothing of one another.
func TestRandomRows(t *testing.T) {
	r := rand.New(rand.NewSource(5))
	for range 400 {
		two := [2]*pair{{s: stream.New()}, {s: stream.New()}}
		for range 150 {
			two[r.Intn(2)].try(t, some(r, 12))
		}
		for _, p := range two {
			p.compare(t)
			p.drain(t)
			p.try(t, step{call: 'c', end: r.Intn(2)})
			p.drain(t)
		}
	}
}

// Rows of great pieces, so that both limits are met again and again.
func TestRandomRowsAtTheLimits(t *testing.T) {
	r := rand.New(rand.NewSource(6))
	met := map[api.Errno]int{}
	for range 12 {
		p := &pair{s: stream.New()}
		for range 60 {
			x := step{call: "sssmmrt"[r.Intn(7)], end: r.Intn(2), n: r.Intn(api.MaxStream / 2)}
			switch x.call {
			case 's':
				x.text = pattern(r.Intn(api.MaxStream))
			case 't':
				x.n = r.Intn(8) / 7
			}
			met[p.m.code(x)]++
			p.try(t, x)
			p.path = nil // too long to be told
		}
		p.try(t, step{call: 'c', end: r.Intn(2)})
		p.drain(t)
	}
	if met[api.ErrLong] == 0 || met[api.ErrMany] == 0 || met[api.OK] < 100 {
		t.Errorf("the limits are not met: %v", met)
	}
}

// FuzzCalls takes bytes as a row of calls: three of them are one.
func FuzzCalls(f *testing.F) {
	f.Add([]byte("s\x00\x05m\x00\x02r\x01\x0am\x00\x04b\x00\x00r\x01\x0a"))
	f.Add([]byte("s\x01\x02c\x01\x00r\x00\x01r\x00\x01r\x00\x01"))
	f.Add([]byte("t\x00\x01m\x00\x01"))
	f.Fuzz(func(t *testing.T, b []byte) {
		p := &pair{s: stream.New()}
		for ; len(b) >= 3; b = b[3:] {
			x := step{call: "smtrcb"[b[0]%6], end: int(int8(b[1])) % 3, n: int(int8(b[2]))}
			if i := b[0]; i == 's' || i == 'm' || i == 't' || i == 'r' || i == 'c' || i == 'b' {
				x.call = i
			}
			if x.call == 's' {
				x.text = pattern(int(b[2]))
			}
			p.try(t, x)
		}
		p.drain(t)
		p.try(t, step{call: 'c', end: 1})
		p.drain(t)
	})
}
