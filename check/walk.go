package check

import (
	"slices"

	"heddle/api"
)

// walk goes over what is evaluated, in the order in which names are bound there.
func (c *checker) walk(i int) {
	n := c.nodes[i]
	switch n.Kind {
	case api.EVar:
		c.read(i)
	case api.EMatch:
		c.walk(n.Kids[1])
		c.pattern(n.Kids[0])
	case api.NClause:
		c.pattern(n.Kids[0])
		c.row(n.Kids[1:])
	case api.NGuard:
		c.guard(i)
	case api.ECase:
		c.walk(n.Kids[0])
		c.either(n.Kids[1:])
	case api.EReceive:
		c.either(n.Kids)
	case api.EAndAlso:
		fallthrough
	case api.EOrElse:
		c.walk(n.Kids[0])
		c.perhaps(n.Kids[1:])
	case api.ETry:
		// A clause is met from anywhere in the body, and what is behind the try is met without any clause, too.
		c.perhaps(n.Kids[:1])
		c.perhaps(n.Kids[1:])
	case api.ECall:
		c.call(i)
		fallthrough
	default:
		c.row(n.Kids)
	}
}

// row goes over nodes one behind the other.
func (c *checker) row(nodes []int) {
	for _, i := range nodes {
		c.walk(i)
	}
}

// either goes over nodes one of which is evaluated.
func (c *checker) either(nodes []int) {
	ahead := slices.Clone(c.scope.now)
	c.walk(nodes[0])
	for _, i := range nodes[1:] {
		behind := c.scope.now
		c.scope.now = slices.Clone(ahead)
		c.walk(i)
		c.scope.now = join(behind, c.scope.now)
	}
}

// perhaps goes over nodes one of which, or none, is evaluated.
func (c *checker) perhaps(nodes []int) {
	without := slices.Clone(c.scope.now)
	c.either(nodes)
	c.scope.now = join(without, c.scope.now)
}

func (c *checker) read(i int) {
	slot, standing := c.scope.find(c.nodes[i].Text)
	c.must(standing != isUnbound, i, api.ErrUnbound)
	c.must(standing != isUnsafe, i, api.ErrUnsafe)
	c.seen[i] = api.Seen{Role: api.RUse, Slot: slot}
}

func (c *checker) call(i int) {
	n := c.nodes[i]
	c.must(len(n.Kids) <= api.MaxArgs, i, api.ErrArity)
	called := c.calledBy(n)
	c.must(called.Role != api.RNone, i, api.ErrUnknown)
	c.seen[i] = called
}

// pattern goes over what terms are held against.
func (c *checker) pattern(i int) {
	n := c.nodes[i]
	switch n.Kind {
	case api.EVar:
		c.seen[i] = c.held(i)
	case api.EUnary:
		c.must(n.Text != "not" && c.nodes[n.Kids[0]].Kind == api.EInt, i, api.ErrPattern)
		fallthrough
	case api.EInt, api.EAtom, api.ENil, api.ETuple, api.EList, api.EMatch, api.NArgs:
		for _, kid := range n.Kids {
			c.pattern(kid)
		}
	default:
		c.must(false, i, api.ErrPattern)
	}
}

// held tells what a variable in a pattern does.
func (c *checker) held(i int) api.Seen {
	name := c.nodes[i].Text
	if name == nobody {
		return api.Seen{Role: api.RAny}
	}
	slot, standing := c.scope.find(name)
	c.must(standing != isUnsafe, i, api.ErrUnsafe)
	if standing == isBound {
		return api.Seen{Role: api.RTest, Slot: slot}
	}
	slot = c.scope.bind(name)
	c.must(slot < api.MaxVars, i, api.ErrVars)
	return api.Seen{Role: api.RBind, Slot: slot}
}

// guard goes over what only asks.
func (c *checker) guard(i int) {
	n := c.nodes[i]
	switch n.Kind {
	case api.EVar:
		c.read(i)
	case api.ECall:
		called := c.calledBy(n)
		c.must(called.Role == api.RBif && c.bifs[called.Slot].Guard, i, api.ErrGuard)
		c.seen[i] = called
		c.guards(n.Kids)
	case api.EBinary:
		c.must(n.Text != "++" && n.Text != "--", i, api.ErrGuard)
		fallthrough
	case api.EInt, api.EAtom, api.ENil, api.ETuple, api.EList, api.EUnary, api.EAndAlso, api.EOrElse, api.NGuard, api.NConj:
		c.guards(n.Kids)
	default:
		c.must(false, i, api.ErrGuard)
	}
}

func (c *checker) guards(nodes []int) {
	for _, i := range nodes {
		c.guard(i)
	}
}
