package conn

import (
	"heddle/api"
	"heddle/frame"
	"heddle/shake"
)

// How wide the lengths of frames are.
const (
	narrow = 2 // in the handshake
	wide   = 4 // behind it
)

// stream is what is kept of one.
type stream struct {
	number int
	reader *frame.Reader
	side   *shake.Side // nil of a node's that is up
	node   *node       // nil of a stranger's
	since  int         // of a stranger's
}

// node is what is kept of one that is not ConnNone.
type node struct {
	name   string
	state  api.ConnState
	stream *stream  // of ConnTrying, ConnTaken, ConnUp
	waits  [][]byte // bodies, each in a frame already
	wished bool     // plays no part of ConnUp
	since  int      // of ConnTrying, ConnAwaited, ConnTaken
	sent   int      // of ConnUp
	come   int      // likewise
	peer   api.Peer // likewise
}

// where is the state of a node; of one of which nothing is kept, too.
func (n *node) where() api.ConnState {
	if n == nil {
		return api.ConnNone
	}
	return n.state
}

// tale is what happens, in order.
type tale []api.Hap

func (l *tale) add(h api.Hap) { *l = append(*l, h) }

// turn is a call under way: its table and time, and who is told what happens.
type turn struct {
	*Table
	now  int
	tell func(api.Hap)
}

// say sends a message of the handshake.
func (c turn) say(s *stream, message []byte) { c.send(s, framed(narrow, message)) }

func (c turn) send(s *stream, bytes []byte) {
	c.tell(api.Hap{Kind: api.YSend, Stream: s.number, Bytes: bytes})
}

// framed is a body in a frame. There is one: nobody frames a body that is too long.
func framed(width int, body []byte) []byte {
	b, _ := frame.Frame(width, body)
	return b
}

// enlist keeps a stream, with a side of a handshake on it.
func (t *Table) enlist(number int, side *shake.Side) *stream {
	reader, _ := frame.New(narrow)
	s := &stream{number: number, reader: reader, side: side}
	t.streams[number] = s
	return s
}

// challenge is that of the next side.
func (t *Table) challenge() uint32 {
	n, _ := t.gen.Next()
	return n
}
