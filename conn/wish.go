package conn

import (
	"strings"

	"heddle/api"
	"heddle/shake"
)

// Connect asks for a connection.
func (t *Table) Connect(node string, now int) ([]api.Hap, error) {
	if err := t.enter(isTime(now), isOther(node)); err != nil {
		return nil, err
	}
	var told tale
	turn{t, now, told.add}.wish(node)
	return told, nil
}

// Send sends a body, or lets it wait for a connection.
func (t *Table) Send(node string, body []byte, now int) ([]api.Hap, error) {
	if err := t.enter(isTime(now), isOther(node)); err != nil {
		return nil, err
	}
	if len(body) == 0 || len(body) > api.MaxFrame {
		return nil, refuse(api.ErrLong)
	}
	if n := t.nodes[node]; n != nil && len(n.waits) == api.MaxPending {
		return nil, refuse(api.ErrMany)
	}
	var told tale
	turn{t, now, told.add}.post(node, body)
	return told, nil
}

// wish is a node that is wished; a stream to it is wanted, if nobody has tried to connect.
func (c turn) wish(name string) *node {
	n := c.nodes[name]
	if n == nil {
		n = c.meet(name)
		n.state = api.ConnWanted
		c.tell(api.Hap{Kind: api.YOpen, Node: n.name})
	}
	n.wished = true
	return n
}

// meet keeps a node of which nothing was kept.
func (t *Table) meet(name string) *node {
	n := &node{name: strings.Clone(name)}
	t.nodes[n.name] = n
	return n
}

func (c turn) post(name string, body []byte) {
	n := c.wish(name)
	if n.state != api.ConnUp {
		n.waits = append(n.waits, framed(wide, body))
		return
	}
	n.sent = c.now
	c.send(n.stream, framed(wide, body))
}

// Opened says that there is a stream that was wanted.
func (t *Table) Opened(node string, stream int, now int) ([]api.Hap, error) {
	if err := t.enter(isTime(now), isOther(node), isNumber(stream), isNew(stream), isWanted(node), hasRoom); err != nil {
		return nil, err
	}
	// Nothing stands in the way of a side: New has asked for all else, and the node is another one.
	side, hello, _ := shake.Begin(t.me, node, t.cookie, t.challenge())
	s, n := t.enlist(stream, side), t.nodes[node]
	var told tale
	c := turn{t, now, told.add}
	c.give(s, n, api.ConnTrying)
	c.say(s, hello)
	return told, nil
}

// give makes a stream a node's.
func (c turn) give(s *stream, n *node, state api.ConnState) {
	s.node = n
	n.stream, n.state, n.since = s, state, c.now
}

// Refused says that there is none.
func (t *Table) Refused(node string) ([]api.Hap, error) {
	if err := t.enter(isOther(node), isWanted(node)); err != nil {
		return nil, err
	}
	var told tale
	turn{Table: t, tell: told.add}.fail(t.nodes[node])
	return told, nil
}
