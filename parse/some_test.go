package parse_test

import (
	"math/rand"

	"heddle/api"
)

// maker makes tokens of a program row by row of the grammar, by chance, and knows their tree, for it has chosen it.
type maker struct {
	r *rand.Rand
	l []api.Token
}

// someProgram is the tokens of some program, at places by chance, and its tree.
func someProgram(r *rand.Rand, depth int) ([]api.Token, tree) {
	m := &maker{r: r}
	t := m.program(depth)
	return m.l, t
}

// put puts a token and tells its place.
func (m *maker) put(t api.Token) int {
	t.At = int(m.r.Uint64())
	m.l = append(m.l, t)
	return t.At
}

func (m *maker) sign(text string) int { return m.put(api.Token{Kind: api.TSign, Text: text}) }

func (m *maker) word(text string) int { return m.put(api.Token{Kind: api.TWord, Text: text}) }

func (m *maker) dot() { m.put(api.Token{Kind: api.TDot}) }

// atom puts some atom; modules are none that are classes, for these would be taken as such in a catch.
func (m *maker) atom(modules bool) (string, int) {
	all := []string{"m", "f", "export", "module", "end", "a b", "erlang", "", "throw", "error", "exit", "_"}
	if modules {
		all = all[:7]
	}
	text := all[m.r.Intn(len(all))]
	return text, m.put(api.Token{Kind: api.TAtom, Text: text})
}

func (m *maker) number() (int64, int) {
	n := []int64{0, 1, 2, 255, api.MaxInt}[m.r.Intn(5)]
	return n, m.put(api.Token{Kind: api.TInt, Int: n})
}

func (m *maker) pick(all ...string) string { return all[m.r.Intn(len(all))] }

func (m *maker) chance(one int) bool { return m.r.Intn(one) == 0 }

// placeOf is the place of a token that has been put.
func (m *maker) placeOf(first int) int { return m.l[first].At }

// row makes one phrase or more.
func (m *maker) row(between string, most int, phrase func() tree) []tree {
	all := []tree{phrase()}
	for n := m.r.Intn(most); n > 0; n-- {
		m.sign(between)
		all = append(all, phrase())
	}
	return all
}

// enclosed makes phrases in brackets, perhaps none.
func (m *maker) enclosed(left, right string, phrase func() tree) ([]tree, int) {
	at := m.sign(left)
	var all []tree
	if !m.chance(4) {
		all = m.row(",", 3, phrase)
	}
	m.sign(right)
	return all, at
}

func (m *maker) program(d int) tree {
	var kids []tree
	for n := 1 + m.r.Intn(2); n > 0; n-- {
		kids = append(kids, m.module(d))
	}
	return tree{api.Node{Kind: api.NProgram, At: m.placeOf(0)}, kids}
}

func (m *maker) module(d int) tree {
	at := m.sign("-")
	m.put(api.Token{Kind: api.TAtom, Text: "module"})
	m.sign("(")
	name, _ := m.atom(false)
	m.sign(")")
	m.dot()
	var kids []tree
	for n := m.r.Intn(4); n > 0; n-- {
		if m.chance(2) {
			kids = append(kids, m.exports()...)
		} else {
			kids = append(kids, m.function(d))
		}
	}
	return tree{api.Node{Kind: api.NModule, Text: name, At: at}, kids}
}

func (m *maker) exports() []tree {
	m.sign("-")
	m.put(api.Token{Kind: api.TAtom, Text: "export"})
	m.sign("(")
	kids, _ := m.enclosed("[", "]", func() tree {
		name, at := m.atom(false)
		m.sign("/")
		n, _ := m.number()
		return tree{api.Node{Kind: api.NExport, Text: name, Int: n, At: at}, nil}
	})
	m.sign(")")
	m.dot()
	return kids
}

func (m *maker) function(d int) tree {
	first := len(m.l)
	kids := m.row(";", 3, func() tree { return m.fun(d) })
	m.dot()
	head := kids[0]
	return tree{api.Node{Kind: api.NFunction, Text: head.node.Text, Int: int64(len(head.kids[0].kids)), At: m.placeOf(first)}, kids}
}

func (m *maker) fun(d int) tree {
	name, at := m.atom(false)
	args, bracket := m.args(d)
	kids := []tree{{api.Node{Kind: api.NArgs, At: bracket}, args}}
	return tree{api.Node{Kind: api.NClause, Text: name, At: at}, m.rest(d, kids)}
}

func (m *maker) args(d int) ([]tree, int) {
	return m.enclosed("(", ")", func() tree { return m.exp(d - 1) })
}

// rest makes what stands behind a clause's pattern.
func (m *maker) rest(d int, kids []tree) []tree {
	if m.chance(3) {
		m.word("when")
		first := len(m.l)
		all := m.row(";", 3, func() tree { return m.several(api.NConj, d-1) })
		kids = append(kids, tree{api.Node{Kind: api.NGuard, At: m.placeOf(first)}, all})
	}
	m.sign("->")
	return append(kids, m.several(api.NBody, d))
}

// several is a conj or a body.
func (m *maker) several(kind api.NodeKind, d int) tree {
	first := len(m.l)
	kids := m.row(",", 3, func() tree { return m.exp(d - 1) })
	return tree{api.Node{Kind: kind, At: m.placeOf(first)}, kids}
}

// pair is an operator's tree.
func pair(kind api.NodeKind, text string, at int, left, right tree) tree {
	return tree{api.Node{Kind: kind, Text: text, At: at}, []tree{left, right}}
}

func (m *maker) goesOn(d int) bool { return d > 0 && m.chance(6) }

func (m *maker) exp(d int) tree {
	left := m.e1(d)
	if !m.goesOn(d) {
		return left
	}
	kind, text := api.EMatch, "="
	if m.chance(2) {
		kind, text = api.ESend, "!"
	}
	at := m.sign(text)
	return pair(kind, "", at, left, m.exp(d-1))
}

func (m *maker) e1(d int) tree {
	left := m.e2(d)
	if !m.goesOn(d) {
		return left
	}
	at := m.word("orelse")
	return pair(api.EOrElse, "", at, left, m.e1(d-1))
}

func (m *maker) e2(d int) tree {
	left := m.e3(d)
	if !m.goesOn(d) {
		return left
	}
	at := m.word("andalso")
	return pair(api.EAndAlso, "", at, left, m.e2(d-1))
}

func (m *maker) e3(d int) tree {
	left := m.e4(d)
	if !m.goesOn(d) {
		return left
	}
	text := m.pick("==", "/=", "=<", "<", ">=", ">", "=:=", "=/=")
	at := m.sign(text)
	return pair(api.EBinary, text, at, left, m.e4(d-1))
}

func (m *maker) e4(d int) tree {
	left := m.e5(d)
	if !m.goesOn(d) {
		return left
	}
	text := m.pick("++", "--")
	at := m.sign(text)
	return pair(api.EBinary, text, at, left, m.e4(d-1))
}

func (m *maker) e5(d int) tree {
	left := m.e6(d)
	for m.goesOn(d) {
		text := m.pick("+", "-", "or", "xor")
		at := m.operator(text)
		left = pair(api.EBinary, text, at, left, m.e6(d-1))
	}
	return left
}

func (m *maker) e6(d int) tree {
	left := m.e7(d)
	for m.goesOn(d) {
		text := m.pick("*", "div", "rem", "and")
		at := m.operator(text)
		left = pair(api.EBinary, text, at, left, m.e7(d-1))
	}
	return left
}

func (m *maker) operator(text string) int {
	if text[0] >= 'a' && text[0] <= 'z' {
		return m.word(text)
	}
	return m.sign(text)
}

func (m *maker) e7(d int) tree {
	if !m.goesOn(d) {
		return m.e8(d)
	}
	text := m.pick("+", "-", "not")
	at := m.operator(text)
	return tree{api.Node{Kind: api.EUnary, Text: text, At: at}, []tree{m.e7(d - 1)}}
}

func (m *maker) e8(d int) tree {
	choice := m.r.Intn(13)
	if d <= 0 {
		choice = m.r.Intn(4)
	}
	switch choice {
	case 0:
		n, at := m.number()
		return tree{api.Node{Kind: api.EInt, Int: n, At: at}, nil}
	case 1:
		text := m.pick("X", "_", "Y", "_Z")
		return tree{api.Node{Kind: api.EVar, Text: text, At: m.put(api.Token{Kind: api.TVar, Text: text})}, nil}
	case 2:
		text, at := m.atom(false)
		return tree{api.Node{Kind: api.EAtom, Text: text, At: at}, nil}
	case 3:
		at := m.sign("[")
		m.sign("]")
		return tree{api.Node{Kind: api.ENil, At: at}, nil}
	case 4:
		mod, at := m.atom(true)
		m.sign(":")
		name, _ := m.atom(false)
		args, _ := m.args(d)
		return tree{api.Node{Kind: api.ECall, Text: name, Mod: mod, At: at}, args}
	case 5:
		name, at := m.atom(false)
		args, _ := m.args(d)
		return tree{api.Node{Kind: api.ECall, Text: name, At: at}, args}
	case 6:
		m.sign("(")
		inner := m.exp(d - 1)
		m.sign(")")
		return inner
	case 7:
		kids, at := m.enclosed("{", "}", func() tree { return m.exp(d - 1) })
		return tree{api.Node{Kind: api.ETuple, At: at}, kids}
	case 8:
		return m.list(d)
	}
	return m.block(d, choice)
}

func (m *maker) list(d int) tree {
	at := m.sign("[")
	kids := m.row(",", 3, func() tree { return m.exp(d - 1) })
	if m.chance(2) {
		m.sign("|")
		kids = append(kids, m.exp(d-1))
		m.sign("]")
	} else {
		kids = append(kids, tree{api.Node{Kind: api.ENil, At: m.sign("]")}, nil})
	}
	return tree{api.Node{Kind: api.EList, At: at}, kids}
}

func (m *maker) block(d, choice int) tree {
	var t tree
	switch choice {
	case 9:
		t.node = api.Node{Kind: api.EBegin, At: m.word("begin")}
		t.kids = []tree{m.several(api.NBody, d)}
	case 10:
		t.node = api.Node{Kind: api.ECase, At: m.word("case")}
		t.kids = []tree{m.exp(d - 1)}
		m.word("of")
		t.kids = append(t.kids, m.row(";", 3, func() tree { return m.clause(d) })...)
	case 11:
		t.node = api.Node{Kind: api.EReceive, At: m.word("receive")}
		both := m.r.Intn(3)
		if both != 0 {
			t.kids = m.row(";", 3, func() tree { return m.clause(d) })
		}
		if both != 1 {
			t.kids = append(t.kids, m.after(d))
		}
	default:
		t.node = api.Node{Kind: api.ETry, At: m.word("try")}
		t.kids = []tree{m.several(api.NBody, d)}
		m.word("catch")
		t.kids = append(t.kids, m.row(";", 3, func() tree { return m.catch(d) })...)
	}
	m.word("end")
	return t
}

func (m *maker) clause(d int) tree {
	first := len(m.l)
	kids := m.rest(d, []tree{m.exp(d - 1)})
	return tree{api.Node{Kind: api.NClause, At: m.placeOf(first)}, kids}
}

func (m *maker) after(d int) tree {
	at := m.word("after")
	wait := m.exp(d - 1)
	m.sign("->")
	return tree{api.Node{Kind: api.NAfter, At: at}, []tree{wait, m.several(api.NBody, d)}}
}

func (m *maker) catch(d int) tree {
	first, class := len(m.l), "throw"
	if m.chance(2) {
		class = m.pick("throw", "error", "exit", "_")
		kind := api.TAtom
		if class == "_" {
			kind = api.TVar
		}
		m.put(api.Token{Kind: kind, Text: class})
		m.sign(":")
	}
	kids := m.rest(d, []tree{m.exp(d - 1)})
	return tree{api.Node{Kind: api.NClause, Text: class, At: m.placeOf(first)}, kids}
}
