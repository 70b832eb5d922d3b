package conn

import "heddle/api"

// end ends a stream of the table.
func (c turn) end(s *stream) {
	c.shut(s)
	c.lose(s.node)
}

// shut closes a stream, and forgets it.
func (c turn) shut(s *stream) {
	c.tell(api.Hap{Kind: api.YClose, Stream: s.number})
	delete(c.streams, s.number)
}

// lose is what the end of a stream is to the node whose it was; a stranger's was nobody's.
func (c turn) lose(n *node) {
	switch n.where() {
	case api.ConnUp:
		delete(c.nodes, n.name)
		c.tell(api.Hap{Kind: api.YDown, Node: n.name})
	case api.ConnTaken:
		if !n.wished {
			delete(c.nodes, n.name)
			return
		}
		fallthrough
	case api.ConnTrying:
		c.fail(n)
	}
}

// fail is the end of an attempt, and of what waits for it.
func (c turn) fail(n *node) {
	delete(c.nodes, n.name)
	c.tell(api.Hap{Kind: api.YFail, Node: n.name})
}

// giveUp ends what there is of a connection.
func (c turn) giveUp(n *node) {
	if n.stream != nil {
		c.end(n.stream)
		return
	}
	c.fail(n)
}

// Closed says that a stream is over.
func (t *Table) Closed(stream int) ([]api.Hap, error) {
	if err := t.enter(isNumber(stream), isThere(stream)); err != nil {
		return nil, err
	}
	n := t.streams[stream].node
	delete(t.streams, stream)
	var told tale
	turn{Table: t, tell: told.add}.lose(n)
	return told, nil
}

// Break ends a connection, or an attempt.
func (t *Table) Break(node string) ([]api.Hap, error) {
	if err := t.enter(isOther(node)); err != nil {
		return nil, err
	}
	var told tale
	if n := t.nodes[node]; n != nil {
		turn{Table: t, tell: told.add}.giveUp(n)
	}
	return told, nil
}

// Tick does what is due.
func (t *Table) Tick(now int) ([]api.Hap, error) {
	if err := t.enter(isTime(now)); err != nil {
		return nil, err
	}
	var told tale
	c := turn{t, now, told.add}
	for _, name := range inOrder(t.nodes) {
		c.tick(t.nodes[name])
	}
	for _, number := range inOrder(t.streams) {
		if s := t.streams[number]; s.node == nil && c.isLate(s.since) {
			c.end(s)
		}
	}
	return told, nil
}

// tick does what is due with a node. One to which a stream is wanted waits for it as long as it takes.
func (c turn) tick(n *node) {
	switch n.state {
	case api.ConnUp:
		if c.isLate(n.come) {
			c.giveUp(n)
		} else if c.now-n.sent >= api.Interval {
			n.sent = c.now
			c.send(n.stream, framed(wide, nil))
		}
	case api.ConnTrying, api.ConnAwaited, api.ConnTaken:
		if c.isLate(n.since) {
			c.giveUp(n)
		}
	}
}

// isLate tells whether what has to happen in time has not, since then.
func (c turn) isLate(since int) bool { return c.now-since >= 4*api.Interval }
