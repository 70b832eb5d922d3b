package compile

import (
	"heddle/api"
	"heddle/bif"
	"heddle/code"
)

// signature is what tells functions of a module, or built-ins, apart.
type signature struct {
	name  string
	arity int
}

// literal is what tells constants apart: an int, an atom, the empty list; a tuple is that of the atoms mod and text.
type literal struct {
	kind      api.Kind
	whole     int64
	mod, text string
}

// program is one whose code is being made.
type program struct {
	nodes    []api.Node
	seen     []api.Seen
	builtIns []api.Bif
	terms    map[signature]int // their places in bif.All
	acts     map[signature]int // theirs in code.Acts
	literals map[literal]int   // the numbers of their constants
	numbers  map[int]int       // of functions in their modules, by their nodes
	made     api.Code
}

func newProgram(l []api.Node, seen []api.Seen) *program {
	return &program{
		nodes: l, seen: seen, builtIns: api.Bifs(),
		terms: places(bif.All()), acts: places(code.Acts()), literals: map[literal]int{}, numbers: map[int]int{},
	}
}

func places(all []api.Bif) map[signature]int {
	m := map[signature]int{}
	for place, b := range all {
		m[signature{b.Name, b.Arity}] = place
	}
	return m
}

func (p *program) program(root int) {
	modules := p.nodes[root].Kids
	within(len(modules), api.MaxMods)
	for _, i := range modules {
		p.made.Mods = append(p.made.Mods, p.module(i))
	}
}

func (p *program) module(i int) api.Mod {
	var functions []int
	exports := map[signature]int{}
	for _, form := range p.nodes[i].Kids {
		switch p.nodes[form].Kind {
		case api.NExport:
			exports[p.signature(form)] = form
		case api.NFunction:
			// Functions may be called ahead of where they stand, so that all have their numbers first.
			p.numbers[form] = len(functions)
			functions = append(functions, form)
		}
	}
	within(len(functions), api.MaxFuns)
	m := api.Mod{Name: p.nodes[i].Text}
	for number, form := range functions {
		m.Funs = append(m.Funs, p.function(form))
		if _, exported := exports[p.signature(form)]; exported {
			m.Exports = append(m.Exports, number)
		}
	}
	return m
}

// signature tells which function an export or a function's node is of.
func (p *program) signature(form int) signature {
	return signature{p.nodes[form].Text, int(p.nodes[form].Int)}
}

// constant is the number of a literal's constant.
func (p *program) constant(c literal) int {
	number, there := p.literals[c]
	if !there {
		number = len(p.made.Consts)
		p.literals[c] = number
		p.made.Consts = append(p.made.Consts, c.term())
		within(len(p.made.Consts), api.MaxConsts)
	}
	return number
}

func (c literal) term() api.Term {
	if c.kind == api.KTuple {
		return api.Term{Kind: api.KTuple, Args: []api.Term{symbol(c.mod).term(), symbol(c.text).term()}}
	}
	return api.Term{Kind: c.kind, Int: c.whole, Text: c.text}
}

func symbol(text string) literal { return literal{kind: api.KAtom, text: text} }

// literal is what a node without variables is, in a phrase or a pattern.
func (p *program) literal(i int) literal {
	n := p.nodes[i]
	switch n.Kind {
	case api.EUnary:
		c := p.literal(n.Kids[0])
		if n.Text == "-" {
			c.whole = -c.whole
		}
		return c
	case api.EInt:
		return literal{kind: api.KInt, whole: n.Int}
	case api.EAtom:
		return symbol(n.Text)
	}
	return literal{kind: api.KNil}
}
