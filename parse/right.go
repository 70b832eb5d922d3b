package parse

import (
	"math"

	"heddle/api"
	"heddle/lex"
)

// group is what a node is to the one above it, a bit of its own.
type group uint

const (
	anExpression group = 1 << iota
	aClause            // of a case or a receive
	aCatch             // of a try
	aFun               // of a function
	aGuard
	aConj
	aBody
	anAfter
	theArgs
	aFunction
	aModule
	aProgram
	anExport

	noGroup group = 0 // of a node that is not right, or that was not looked at
)

// many is how many Kids are, where there is no limit.
const many = math.MaxInt

// part is some Kids in a row that are of the same groups.
type part struct {
	of          group
	least, most int
}

// partsOf tells which Kids nodes of a kind have, one part behind the other.
func partsOf(kind api.NodeKind) []part {
	switch kind {
	case api.EUnary:
		return []part{{anExpression, 1, 1}}
	case api.EMatch, api.ESend, api.EBinary, api.EAndAlso, api.EOrElse:
		return []part{{anExpression, 2, 2}}
	case api.ETuple, api.ECall, api.NArgs:
		return []part{{anExpression, 0, many}}
	case api.NConj, api.NBody:
		return []part{{anExpression, 1, many}}
	case api.EList:
		return []part{{anExpression, 2, many}}
	case api.EBegin:
		return []part{{aBody, 1, 1}}
	case api.ECase:
		return []part{{anExpression, 1, 1}, {aClause, 1, many}}
	case api.ETry:
		return []part{{aBody, 1, 1}, {aCatch, 1, many}}
	case api.EReceive:
		return []part{{aClause, 0, many}, {anAfter, 0, 1}}
	case api.NClause:
		return []part{{anExpression | theArgs, 1, 1}, {aGuard, 0, 1}, {aBody, 1, 1}}
	case api.NGuard:
		return []part{{aConj, 1, many}}
	case api.NAfter:
		return []part{{anExpression, 1, 1}, {aBody, 1, 1}}
	case api.NFunction:
		return []part{{aFun, 1, many}}
	case api.NModule:
		return []part{{anExport | aFunction, 0, many}}
	case api.NProgram:
		return []part{{aModule, 1, many}}
	}
	return nil
}

// Check tells whether a node is the root of a right tree: the program of its tokens.
func Check(l []api.Node, root int) error {
	if !isNode(l, root) {
		return refuse(0, api.ErrTree)
	}
	tree := Below(l, root)
	groups := make([]group, len(l))
	for _, i := range tree {
		groups[i] = groupOf(l, i, groups)
	}
	// A node above one that is not right is not right; and a phrase of a program, right as it may be, is none that a program's tokens have as their tree.
	if groups[root] != aProgram {
		return refuse(0, api.ErrTree)
	}
	return limit(l, tree)
}

// groupOf tells a node's group, by those of the nodes below it.
func groupOf(l []api.Node, i int, groups []group) group {
	n := l[i]
	if !fieldsFit(n) || !kidsFit(n, i, groups) {
		return noGroup
	}
	switch n.Kind {
	case api.NClause:
		return groupOfClause(n, groups[n.Kids[0]])
	case api.NFunction:
		return groupOfFunction(l, n)
	case api.EReceive:
		// Its two parts may each be missing, but not both.
		if len(n.Kids) == 0 {
			return noGroup
		}
	}
	return groupOfKind(n.Kind)
}

// groupOfKind tells the group of kinds all of whose nodes have the same.
func groupOfKind(kind api.NodeKind) group {
	switch kind {
	case api.NGuard:
		return aGuard
	case api.NConj:
		return aConj
	case api.NBody:
		return aBody
	case api.NAfter:
		return anAfter
	case api.NArgs:
		return theArgs
	case api.NModule:
		return aModule
	case api.NProgram:
		return aProgram
	case api.NExport:
		return anExport
	}
	if api.EInt <= kind && kind <= api.EOrElse {
		return anExpression
	}
	return noGroup
}

// groupOfClause tells what a clause is one of: its Text and the group of its first Kid do.
func groupOfClause(n api.Node, first group) group {
	switch {
	case first == theArgs:
		if isToken(api.TAtom, n.Text) {
			return aFun
		}
	case n.Text == "":
		return aClause
	case n.Text == anyClass || isClass(n.Text):
		return aCatch
	}
	return noGroup
}

// groupOfFunction: a function is right, if it has the name of its first clause, and as many arguments.
func groupOfFunction(l []api.Node, n api.Node) group {
	first := l[n.Kids[0]]
	if n.Text != first.Text || n.Int != int64(len(l[first.Kids[0]].Kids)) {
		return noGroup
	}
	return aFunction
}

// kidsFit: do right Kids stand there as the kind asks, and no others?
func kidsFit(n api.Node, i int, groups []group) bool {
	next := 0
	for _, part := range partsOf(n.Kind) {
		first := next
		for next < len(n.Kids) && next-first < part.most && isLower(n.Kids[next], i) && groups[n.Kids[next]]&part.of != 0 {
			next++
		}
		if next-first < part.least {
			return false
		}
	}
	return next == len(n.Kids)
}

func fieldsFit(n api.Node) bool {
	return textFits(n) && intFits(n) && (n.Mod == "" || n.Kind == api.ECall && isToken(api.TAtom, n.Mod))
}

func textFits(n api.Node) bool {
	switch n.Kind {
	case api.EAtom, api.ECall, api.NModule, api.NExport:
		return isToken(api.TAtom, n.Text)
	case api.EVar:
		return isToken(api.TVar, n.Text)
	case api.EUnary:
		return isUnary(n.Text)
	case api.EBinary:
		return isBinary(n.Text)
	case api.NClause, api.NFunction:
		// What these hold is told by their Kids.
		return true
	}
	return n.Text == ""
}

func intFits(n api.Node) bool {
	switch n.Kind {
	case api.EInt, api.NExport:
		return 0 <= n.Int && n.Int <= api.MaxInt
	case api.NFunction:
		return true
	}
	return n.Int == 0
}

// isToken: is there a token with that text?
func isToken(kind api.TokenKind, text string) bool {
	_, err := lex.Write(api.Token{Kind: kind, Text: text})
	return err == nil
}
