package match

import (
	"heddle/api"
	"heddle/bif"
)

// made: did New make them? A program has a node at least.
func (r *Rules) made() bool { return r != nil && len(r.nodes) > 0 }

func (r *Rules) isNode(i int) bool { return 0 <= i && i < len(r.nodes) }

func (r *Rules) isGuard(i int) bool { return r.nodes[i].Kind == api.NGuard }

// isPattern: may the node, and all below it, stand in a pattern? Phrases of bodies may be such, too.
func (r *Rules) isPattern(i int) bool {
	n := r.nodes[i]
	switch n.Kind {
	case api.EVar:
		return r.seen[i].Role != api.RUse
	case api.EUnary:
		if n.Text == "not" || r.nodes[n.Kids[0]].Kind != api.EInt {
			return false
		}
		fallthrough
	case api.EInt, api.EAtom, api.ENil, api.ETuple, api.EList, api.EMatch:
		return all(n.Kids, r.isPattern)
	}
	return false
}

// isTest: may the node, and all below it, stand in a guard?
func (r *Rules) isTest(i int) bool {
	n := r.nodes[i]
	switch n.Kind {
	case api.EVar:
		return r.seen[i].Role == api.RUse
	case api.EUnary, api.EBinary, api.ECall:
		if !r.onlyAsks(i) {
			return false
		}
		fallthrough
	case api.EInt, api.EAtom, api.ENil, api.ETuple, api.EList, api.EAndAlso, api.EOrElse:
		return all(n.Kids, r.isTest)
	}
	return false
}

// onlyAsks: is it an operator, or a call of a built-in, that may stand in a guard?
func (r *Rules) onlyAsks(i int) bool {
	n, called := r.nodes[i], r.seen[i]
	if n.Kind == api.ECall {
		return called.Role == api.RBif && api.Bifs()[called.Slot].Guard
	}
	operator, _ := bif.Find(n.Text, len(n.Kids))
	return operator.Guard
}

func all(nodes []int, hasForm func(i int) bool) bool {
	for _, i := range nodes {
		if !hasForm(i) {
			return false
		}
	}
	return true
}
