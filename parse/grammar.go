package parse

import "heddle/api"

// parser reads the phrases of the grammar. No token is given back: each method takes the tokens of its phrase, or panics at the first that may not stand there.
type parser struct {
	tokens []api.Token
	next   int
	nodes  []api.Node
}

// peek is the next token; behind the last one a token that stands nowhere.
func (p *parser) peek() api.Token { return p.ahead(0) }

func (p *parser) ahead(n int) api.Token {
	if p.next+n >= len(p.tokens) {
		return api.Token{}
	}
	return p.tokens[p.next+n]
}

func is(t api.Token, kind api.TokenKind, text string) bool { return t.Kind == kind && t.Text == text }

func (p *parser) isSign(text string) bool { return is(p.peek(), api.TSign, text) }

func (p *parser) isWord(text string) bool { return is(p.peek(), api.TWord, text) }

// need goes on behind the next token, if it is as it must be.
func (p *parser) need(fits bool) api.Token {
	if !fits {
		panic(misplaced(p.next))
	}
	t := p.peek()
	p.next++
	return t
}

func (p *parser) kind(k api.TokenKind) api.Token { return p.need(p.peek().Kind == k) }

func (p *parser) atom(text string) api.Token { return p.need(is(p.peek(), api.TAtom, text)) }

func (p *parser) sign(text string) api.Token { return p.need(p.isSign(text)) }

func (p *parser) word(text string) api.Token { return p.need(p.isWord(text)) }

// add keeps a node; its Kids are kept already, so that they have lower numbers.
func (p *parser) add(n api.Node) int {
	p.nodes = append(p.nodes, n)
	return len(p.nodes) - 1
}

// row reads one phrase or more, with a sign between any two.
func (p *parser) row(between string, phrase func() int) []int {
	kids := []int{phrase()}
	for p.isSign(between) {
		p.next++
		kids = append(kids, phrase())
	}
	return kids
}

// enclosed reads any number of phrases, with commas between them, in brackets.
func (p *parser) enclosed(left, right string, phrase func() int) []int {
	p.sign(left)
	var kids []int
	if !p.isSign(right) {
		kids = p.row(",", phrase)
	}
	p.sign(right)
	return kids
}

func (p *parser) program() int {
	n := api.Node{Kind: api.NProgram, At: p.peek().At, Kids: []int{p.module()}}
	for p.next < len(p.tokens) {
		n.Kids = append(n.Kids, p.module())
	}
	return p.add(n)
}

func (p *parser) module() int {
	n := api.Node{Kind: api.NModule, At: p.sign("-").At}
	p.atom("module")
	p.sign("(")
	n.Text = p.kind(api.TAtom).Text
	p.sign(")")
	p.kind(api.TDot)
	for p.next < len(p.tokens) && !p.atModule() {
		if p.isSign("-") {
			n.Kids = append(n.Kids, p.exports()...)
		} else {
			n.Kids = append(n.Kids, p.function())
		}
	}
	return p.add(n)
}

// atModule: an export begins with the same sign as the next module does, so two tokens tell.
func (p *parser) atModule() bool { return p.isSign("-") && is(p.ahead(1), api.TAtom, "module") }

func (p *parser) exports() []int {
	p.sign("-")
	p.atom("export")
	p.sign("(")
	kids := p.enclosed("[", "]", p.export)
	p.sign(")")
	p.kind(api.TDot)
	return kids
}

func (p *parser) export() int {
	name := p.kind(api.TAtom)
	p.sign("/")
	return p.add(api.Node{Kind: api.NExport, Text: name.Text, Int: p.kind(api.TInt).Int, At: name.At})
}

func (p *parser) function() int {
	n := api.Node{Kind: api.NFunction, At: p.peek().At, Kids: p.row(";", p.functionClause)}
	first := p.nodes[n.Kids[0]]
	n.Text, n.Int = first.Text, int64(len(p.nodes[first.Kids[0]].Kids))
	p.kind(api.TDot)
	return p.add(n)
}

func (p *parser) functionClause() int {
	name := p.kind(api.TAtom)
	args := p.add(api.Node{Kind: api.NArgs, At: p.peek().At, Kids: p.arguments()})
	return p.restOfClause(api.Node{Kind: api.NClause, Text: name.Text, At: name.At}, args)
}

func (p *parser) arguments() []int { return p.enclosed("(", ")", p.whole) }

func (p *parser) clause() int {
	n := api.Node{Kind: api.NClause, At: p.peek().At}
	return p.restOfClause(n, p.whole())
}

func (p *parser) catchClause() int {
	n := api.Node{Kind: api.NClause, Text: "throw", At: p.peek().At}
	if p.atClass() {
		n.Text = p.peek().Text
		p.next += 2
	}
	return p.restOfClause(n, p.whole())
}

// atClass: what is a class by its text may also be a pattern, or the module of a call in one; the sign behind it tells.
func (p *parser) atClass() bool {
	t := p.peek()
	named := t.Kind == api.TAtom && isClass(t.Text) || is(t, api.TVar, anyClass)
	return named && is(p.ahead(1), api.TSign, ":")
}

// anyClass is the class of all.
const anyClass = "_"

// isClass: is it a class that is named by an atom?
func isClass(text string) bool { return text == "throw" || text == "error" || text == "exit" }

// restOfClause reads what stands behind a clause's pattern.
func (p *parser) restOfClause(n api.Node, pattern int) int {
	n.Kids = append(n.Kids, pattern)
	if p.isWord("when") {
		p.next++
		n.Kids = append(n.Kids, p.guard())
	}
	p.sign("->")
	n.Kids = append(n.Kids, p.body())
	return p.add(n)
}

func (p *parser) guard() int {
	at := p.peek().At
	return p.add(api.Node{Kind: api.NGuard, At: at, Kids: p.row(";", p.conjunction)})
}

func (p *parser) conjunction() int {
	at := p.peek().At
	return p.add(api.Node{Kind: api.NConj, At: at, Kids: p.row(",", p.whole)})
}

func (p *parser) body() int {
	at := p.peek().At
	return p.add(api.Node{Kind: api.NBody, At: at, Kids: p.row(",", p.whole)})
}
