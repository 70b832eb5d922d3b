package conn_test

import (
	"slices"
	"strings"
	"testing"

	"heddle/api"
	"heddle/conn"
	"heddle/luck"
	"heddle/stream"
)

// world is several tables, and the streams between them, which carry bytes as they are told to.
type world struct {
	choose luck.Choose
	tables map[string]*conn.Table
	pipes  []*pipe
	opens  []way // streams that are wanted
	now    int
	sent   map[way]map[int][]string // bodies, by who to whom, and by the stream on which both were up
	come   map[way]map[int][]string
	waits  map[way][]string
	said   map[way][]string // all that Send took
	wished map[way]int
	met    map[api.HapKind]int
}

// way is from whom to whom.
type way struct{ from, to string }

func (y way) back() way { return way{y.to, y.from} }

// pipe is a stream; its end 0 is the one of who has opened it.
type pipe struct {
	way
	s        *stream.Stream
	accepted bool
	told     [2]bool // that it is over
}

func (p *pipe) end(name string) int {
	if name == p.from {
		return 0
	}
	return 1
}

func (p *pipe) at(end int) string { return []string{p.from, p.to}[end] }

func newWorld(t testing.TB, choose luck.Choose, cookies map[string]string) *world {
	t.Helper()
	w := &world{choose: choose, tables: map[string]*conn.Table{}, sent: map[way]map[int][]string{}, come: map[way]map[int][]string{}, waits: map[way][]string{}, said: map[way][]string{}, wished: map[way]int{}, met: map[api.HapKind]int{}}
	for name, c := range cookies {
		x, err := conn.New(somebody(name), c, uint64(choose(1000)))
		done(t, "New", err)
		w.tables[name] = x
	}
	return w
}

// note puts a body behind those of a way and a stream.
func note(of map[way]map[int][]string, y way, stream int, bodies ...string) {
	if of[y] == nil {
		of[y] = map[int][]string{}
	}
	of[y][stream] = append(of[y][stream], bodies...)
}

// happened does what a table tells behind a call, which was about that stream, if about any.
func (w *world) happened(t testing.TB, name string, number int, haps []api.Hap) {
	t.Helper()
	for _, h := range haps {
		w.met[h.Kind]++
		y := way{name, h.Node}
		switch h.Kind {
		case api.YOpen:
			w.opens = append(w.opens, y)
		case api.YSend:
			p := w.pipes[h.Stream]
			_ = p.s.Send(p.end(name), h.Bytes) // into a stream that is closed it is lost
		case api.YClose:
			p := w.pipes[h.Stream]
			_ = p.s.Close(p.end(name))
		case api.YUp:
			note(w.sent, y, number, w.waits[y]...)
			delete(w.waits, y)
		case api.YFail:
			delete(w.waits, y)
		case api.YFrame:
			w.comes(t, y.back(), number, string(h.Bytes))
		}
	}
}

// comes: a body, which is the next one of those that were sent in this epoch (P21.10).
func (w *world) comes(t testing.TB, y way, number int, body string) {
	t.Helper()
	note(w.come, y, number, body)
	come, sent := w.come[y][number], w.sent[y][number]
	if len(come) > len(sent) || sent[len(come)-1] != body {
		t.Fatalf("%v, stream %d: %q has come of %q", y, number, come, sent)
	}
}

// wish is a call of Connect, or of Send with a body.
func (w *world) wish(t testing.TB, y way, body string) {
	t.Helper()
	x := w.tables[y.from]
	w.wished[y]++
	if body == "" {
		haps, err := x.Connect(y.to, w.now)
		done(t, "Connect", err)
		w.happened(t, y.from, -1, haps)
		return
	}
	known := x.Conn(y.to)
	haps, err := x.Send(y.to, []byte(body), w.now)
	done(t, "Send", err)
	w.said[y] = append(w.said[y], body)
	if known.State == api.ConnUp {
		note(w.sent, y, known.Stream, body)
	} else {
		w.waits[y] = append(w.waits[y], body)
	}
	w.happened(t, y.from, known.Stream, haps)
}

// open opens a stream that is wanted; one that is not wanted any more is there all the same, and perhaps it is closed.
func (w *world) open(t testing.TB) {
	t.Helper()
	i := w.choose(len(w.opens))
	y := w.opens[i]
	w.opens = slices.Delete(w.opens, i, i+1)
	n := len(w.pipes)
	w.pipes = append(w.pipes, &pipe{way: y, s: stream.New()})
	haps, err := w.tables[y.from].Opened(y.to, n, w.now)
	w.happened(t, y.from, n, haps)
	if err != nil && w.choose(2) == 0 {
		_ = w.pipes[n].s.Close(0)
	}
}

// move lets some of what an end has sent come to the other one.
func (p *pipe) move(end, most int) {
	known, _ := p.s.State(end)
	_ = p.s.Move(end, min(known.Under, most))
}

// read hands an end what has come to it, and tells it that the stream is over; it says whether there was anything.
func (w *world) read(t testing.TB, n, end, most int) bool {
	t.Helper()
	p := w.pipes[n]
	name := p.at(end)
	x := w.tables[name]
	first := end == 1 && !p.accepted
	if first {
		p.accepted = true
		done(t, "Accept", x.Accept(n, w.now))
	}
	b, err := p.s.Read(end, most)
	if err != nil && !p.told[end] {
		p.told[end] = true
		haps, _ := x.Closed(n) // perhaps it has closed it itself
		w.happened(t, name, n, haps)
		return true
	}
	if len(b) > 0 {
		haps, _ := x.Come(n, b, w.now) // likewise
		w.happened(t, name, n, haps)
	}
	return first || len(b) > 0
}

// act opens, moves or reads something.
func (w *world) act(t testing.TB) {
	t.Helper()
	if len(w.opens) > 0 && w.choose(4) == 0 {
		w.open(t)
	}
	if len(w.pipes) == 0 {
		return
	}
	// The last ones are those on which something happens, most often.
	n := len(w.pipes) - 1 - w.choose(min(len(w.pipes), 1+w.choose(6)))
	end, most := w.choose(2), []int{1, 3, 20, 60, 1000}[w.choose(5)]
	if w.choose(2) == 0 {
		w.pipes[n].move(end, most)
	} else {
		w.read(t, n, end, most)
	}
}

// settle does all that is left to be done, in an order of chance.
func (w *world) settle(t testing.TB) {
	t.Helper()
	for more := true; more; {
		more = false
		for len(w.opens) > 0 {
			w.open(t)
			more = true
		}
		for i := range 2 * len(w.pipes) {
			n, end := i/2, i%2
			if w.choose(2) == 0 {
				n = len(w.pipes) - 1 - n
			}
			w.pipes[n].move(1-end, 1<<30)
			more = w.read(t, n, end, 1<<30) || more
		}
		for n := range w.pipes {
			for end := range 2 {
				w.pipes[n].move(1-end, 1<<30)
				more = w.read(t, n, end, 1<<30) || more
			}
		}
	}
}

// isUp tells whether one has the other one among those that are up.
func (w *world) isUp(y way) bool { return slices.Contains(w.tables[y.from].Up(), y.to) }

// whole is all that has come of a way, in the order of the streams.
func (w *world) whole(y way) string {
	var all []string
	for n := range w.pipes {
		all = append(all, w.come[y][n]...)
	}
	return strings.Join(all, " ")
}
