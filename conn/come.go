package conn

import (
	"errors"

	"heddle/api"
	"heddle/atom"
	"heddle/shake"
)

// Accept takes a stream that somebody has opened to this node.
func (t *Table) Accept(stream int, now int) error {
	if err := t.enter(isTime(now), isNumber(stream), isNew(stream), hasRoom); err != nil {
		return err
	}
	side, _ := shake.Wait(t.me, t.cookie, t.challenge())
	t.enlist(stream, side).since = now
	return nil
}

// Come takes bytes that have come on a stream.
func (t *Table) Come(stream int, b []byte, now int) ([]api.Hap, error) {
	if err := t.enter(isTime(now), isNumber(stream), isThere(stream)); err != nil {
		return nil, err
	}
	var told tale
	turn{t, now, told.add}.read(t.streams[stream], b)
	return told, nil
}

// read takes bytes, and all frames that are whole with them.
func (c turn) read(s *stream, b []byte) {
	if s.node.where() == api.ConnUp {
		s.node.come = c.now
	}
	if s.reader.Feed(b) != nil {
		c.end(s)
		return
	}
	for c.streams[s.number] == s {
		body, whole, err := s.reader.Next()
		switch {
		case err != nil:
			c.end(s)
		case !whole:
			return
		default:
			c.take(s, body)
		}
	}
}

// take takes a frame's body.
func (c turn) take(s *stream, body []byte) {
	if s.side != nil {
		c.shake(s, body)
		return
	}
	if len(body) > 0 {
		c.tell(api.Hap{Kind: api.YFrame, Node: s.node.name, Bytes: body})
	}
}

// shake takes a message of a handshake.
func (c turn) shake(s *stream, message []byte) {
	answers, err := s.side.Take(message)
	switch {
	case isNok(message, err):
		c.shut(s)
		s.node.stream, s.node.state, s.node.since = nil, api.ConnAwaited, c.now
		return
	case err != nil:
		c.end(s)
		return
	}
	for _, m := range answers {
		c.say(s, m)
	}
	switch s.side.Now().State {
	case api.WaitAnswer:
		c.greet(s)
	case api.ShakeUp:
		c.rise(s)
	}
}

// isNok tells whether a message was refused for being the status by which the other side says that its own attempt goes on.
func isNok(message []byte, err error) bool {
	m, _ := shake.Read(api.HStatus, message)
	return errors.Is(err, api.ErrStatus) && m.Status == "nok"
}

// greet answers a stranger that has told a name. What shake makes not_allowed leaves the side as dead as every status that is not well.
func (c turn) greet(s *stream) {
	name := s.side.Now().Peer.Name
	n := c.nodes[name]
	answers, _ := s.side.Answer(c.statusFor(name, n))
	for _, m := range answers {
		c.say(s, m)
	}
	if s.side.Now().State == api.ShakeDead {
		c.end(s)
		return
	}
	if n == nil {
		n = c.meet(name)
	}
	if n.stream != nil {
		c.shut(n.stream)
	}
	c.give(s, n, api.ConnTaken)
}

// statusFor is how a name is answered: where both try, the attempt of the greater one goes on.
func (t *Table) statusFor(name string, n *node) string {
	switch n.where() {
	case api.ConnUp:
		return "alive"
	case api.ConnTrying:
		if atom.Compare(t.me.Name, name) > 0 {
			return "nok"
		}
		return "ok_simultaneous"
	}
	return "ok"
}

// rise is the end of a handshake that went well.
func (c turn) rise(s *stream) {
	n := s.node
	n.state, n.peer, n.sent, n.come = api.ConnUp, s.side.Now().Peer, c.now, c.now
	c.epochs[n.name]++
	s.side = nil
	_ = s.reader.Widen() // it lives, and is narrow as long as there is a side
	c.tell(api.Hap{Kind: api.YUp, Node: n.name})
	for _, b := range n.waits {
		c.send(s, b)
	}
	n.waits = nil
}
