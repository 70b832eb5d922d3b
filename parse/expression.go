package parse

import "heddle/api"

// level is how much an operator between two expressions binds: the greater, the more.
type level int

const (
	noLevel level = iota
	matching
	orElse
	andAlso
	comparing
	appending
	adding
	multiplying
)

// whole reads an expression with operators of all levels.
func (p *parser) whole() int { return p.expression(matching) }

// expression reads one whose operators, brackets aside, bind as much as a level at least.
func (p *parser) expression(least level) int {
	left := p.operand()
	for most := multiplying; ; {
		operator := p.peek()
		at := levelOf(operator)
		if at < least || at > most {
			return left
		}
		p.next++
		n := operation(operator)
		right, behind := sides(at)
		n.Kids = []int{left, p.expression(right)}
		left, most = p.add(n), behind
	}
}

// sides tells the least level of what stands right of an operator, and the most of an operator behind that.
func sides(at level) (level, level) {
	switch at {
	case comparing:
		return at + 1, at - 1
	case adding:
		fallthrough
	case multiplying:
		return at + 1, at
	}
	return at, at - 1
}

func levelOf(t api.Token) level {
	switch t.Kind {
	case api.TSign:
		return levelOfSign(t.Text)
	case api.TWord:
		return levelOfWord(t.Text)
	}
	return noLevel
}

func levelOfSign(text string) level {
	switch text {
	case "=":
		fallthrough
	case "!":
		return matching
	case "==":
		fallthrough
	case "/=":
		fallthrough
	case "=<":
		fallthrough
	case "<":
		fallthrough
	case ">=":
		fallthrough
	case ">":
		fallthrough
	case "=:=":
		fallthrough
	case "=/=":
		return comparing
	case "++":
		fallthrough
	case "--":
		return appending
	case "+":
		fallthrough
	case "-":
		return adding
	case "*":
		return multiplying
	}
	return noLevel
}

func levelOfWord(text string) level {
	switch text {
	case "orelse":
		return orElse
	case "andalso":
		return andAlso
	case "or":
		fallthrough
	case "xor":
		return adding
	case "div":
		fallthrough
	case "rem":
		fallthrough
	case "and":
		return multiplying
	}
	return noLevel
}

// isBinary: is it the text of an operator that is no node kind of its own?
func isBinary(text string) bool { return max(levelOfSign(text), levelOfWord(text)) >= comparing }

func isUnary(text string) bool { return text == "+" || text == "-" || text == "not" }

// operation is an operator's node, without Kids.
func operation(t api.Token) api.Node {
	switch t.Text {
	case "=":
		return api.Node{Kind: api.EMatch, At: t.At}
	case "!":
		return api.Node{Kind: api.ESend, At: t.At}
	case "orelse":
		return api.Node{Kind: api.EOrElse, At: t.At}
	case "andalso":
		return api.Node{Kind: api.EAndAlso, At: t.At}
	}
	return api.Node{Kind: api.EBinary, Text: t.Text, At: t.At}
}

// operand reads what stands left or right of an operator between two.
func (p *parser) operand() int {
	t := p.peek()
	switch {
	case is(t, api.TSign, "+"):
		fallthrough
	case is(t, api.TSign, "-"):
		fallthrough
	case is(t, api.TWord, "not"):
		p.next++
		return p.add(api.Node{Kind: api.EUnary, Text: t.Text, At: t.At, Kids: []int{p.operand()}})
	}
	return p.single(t)
}

// single reads an expression that no operator parts; t is its first token.
func (p *parser) single(t api.Token) int {
	switch t.Kind {
	case api.TInt:
		p.next++
		return p.add(api.Node{Kind: api.EInt, Int: t.Int, At: t.At})
	case api.TVar:
		p.next++
		return p.add(api.Node{Kind: api.EVar, Text: t.Text, At: t.At})
	case api.TAtom:
		return p.named(t)
	case api.TSign:
		return p.bracketed(t)
	}
	return p.block(t)
}

// named reads an atom or a call; t is the atom ahead.
func (p *parser) named(t api.Token) int {
	p.next++
	n := api.Node{Kind: api.EAtom, Text: t.Text, At: t.At}
	// A call whose Mod is empty is one without a module, so the empty atom is no module's name here.
	if t.Text != "" && p.isSign(":") {
		p.next++
		n.Mod, n.Text = t.Text, p.kind(api.TAtom).Text
	}
	if n.Mod != "" || p.isSign("(") {
		n.Kind, n.Kids = api.ECall, p.arguments()
	}
	return p.add(n)
}

func (p *parser) bracketed(t api.Token) int {
	switch t.Text {
	case "{":
		return p.add(api.Node{Kind: api.ETuple, At: t.At, Kids: p.enclosed("{", "}", p.whole)})
	case "[":
		return p.list()
	}
	p.sign("(")
	inner := p.whole()
	p.sign(")")
	return inner
}

func (p *parser) list() int {
	n := api.Node{Kind: api.EList, At: p.sign("[").At}
	if p.isSign("]") {
		p.next++
		return p.add(api.Node{Kind: api.ENil, At: n.At})
	}
	n.Kids = p.row(",", p.whole)
	n.Kids = append(n.Kids, p.tail())
	return p.add(n)
}

// tail reads what stands behind a list's last element, its bracket too.
func (p *parser) tail() int {
	if !p.isSign("|") {
		return p.add(api.Node{Kind: api.ENil, At: p.sign("]").At})
	}
	p.next++
	tail := p.whole()
	p.sign("]")
	return tail
}

// block reads an expression from a word to its end; t is its first token.
func (p *parser) block(t api.Token) int {
	begins := t.Kind == api.TWord && (t.Text == "begin" || t.Text == "case" || t.Text == "receive" || t.Text == "try")
	p.need(begins)
	n := api.Node{At: t.At}
	switch t.Text {
	case "begin":
		n.Kind, n.Kids = api.EBegin, []int{p.body()}
	case "case":
		n.Kind, n.Kids = api.ECase, []int{p.whole()}
		p.word("of")
		n.Kids = append(n.Kids, p.row(";", p.clause)...)
	case "receive":
		n.Kind, n.Kids = api.EReceive, p.choices()
	case "try":
		n.Kind, n.Kids = api.ETry, []int{p.body()}
		p.word("catch")
		n.Kids = append(n.Kids, p.row(";", p.catchClause)...)
	}
	p.word("end")
	return p.add(n)
}

// choices reads what a receive holds.
func (p *parser) choices() []int {
	var kids []int
	if !p.isWord("after") {
		kids = p.row(";", p.clause)
	}
	if p.isWord("after") {
		kids = append(kids, p.after())
	}
	return kids
}

func (p *parser) after() int {
	n := api.Node{Kind: api.NAfter, At: p.word("after").At, Kids: []int{p.whole()}}
	p.sign("->")
	n.Kids = append(n.Kids, p.body())
	return p.add(n)
}
