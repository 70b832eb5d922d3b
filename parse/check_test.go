package parse_test

import (
	"math"
	"math/rand"
	"slices"
	"strings"
	"testing"

	"heddle/api"
	"heddle/lex"
	"heddle/parse"
	"heddle/sample"
)

// wrong holds what Check answers of a root against a number; api.OK: it takes it.
func wrong(t *testing.T, what string, l []api.Node, root int, code api.Errno) {
	t.Helper()
	err := parse.Check(l, root)
	if code == api.OK && err != nil || code != api.OK && !sample.IsFault(err, faulty(0, code)) {
		t.Errorf("%s: %v, not %d", what, err, code)
	}
}

// teller tells a tree as tokens, with parentheses about each expression, whatever the nodes hold: what is no right tree is told as something else, or as no program.
type teller struct {
	l   []api.Node
	out []api.Token
}

func (w *teller) sign(text string) { w.out = append(w.out, api.Token{Kind: api.TSign, Text: text}) }
func (w *teller) word(text string) { w.out = append(w.out, api.Token{Kind: api.TWord, Text: text}) }
func (w *teller) atom(text string) { w.out = append(w.out, api.Token{Kind: api.TAtom, Text: text}) }
func (w *teller) dot()             { w.out = append(w.out, api.Token{Kind: api.TDot}) }

// operator puts what may be a sign or a word.
func (w *teller) operator(text string) {
	if text != "" && text[0] >= 'a' && text[0] <= 'z' {
		w.word(text)
		return
	}
	w.sign(text)
}

// row tells Kids with something between any two.
func (w *teller) row(kids []int, between string) {
	for n, kid := range kids {
		if n > 0 {
			w.operator(between)
		}
		w.node(kid)
	}
}

func (w *teller) node(i int) {
	if kind := w.l[i].Kind; kind < 1 || kind > 17 {
		w.phrase(i)
		return
	}
	w.sign("(")
	w.expression(i)
	w.sign(")")
}

func (w *teller) expression(i int) {
	n := w.l[i]
	first, rest := n.Kids[:min(1, len(n.Kids))], n.Kids[min(1, len(n.Kids)):]
	switch n.Kind {
	case api.EInt:
		w.out = append(w.out, api.Token{Kind: api.TInt, Int: n.Int})
	case api.EVar:
		w.out = append(w.out, api.Token{Kind: api.TVar, Text: n.Text})
	case api.EAtom:
		w.atom(n.Text)
	case api.ETuple:
		w.sign("{")
		w.row(n.Kids, ",")
		w.sign("}")
	case api.ENil:
		w.sign("[")
		w.sign("]")
	case api.EList:
		last := max(0, len(n.Kids)-1)
		w.sign("[")
		w.row(n.Kids[:last], ",")
		w.sign("|")
		w.row(n.Kids[last:], "|")
		w.sign("]")
	case api.EMatch:
		w.row(n.Kids, "=")
	case api.ESend:
		w.row(n.Kids, "!")
	case api.EBinary:
		w.row(n.Kids, n.Text)
	case api.EAndAlso:
		w.row(n.Kids, "andalso")
	case api.EOrElse:
		w.row(n.Kids, "orelse")
	case api.EUnary:
		w.operator(n.Text)
		w.row(n.Kids, ",")
	case api.ECall:
		if n.Mod != "" {
			w.atom(n.Mod)
			w.sign(":")
		}
		w.atom(n.Text)
		w.sign("(")
		w.row(n.Kids, ",")
		w.sign(")")
	case api.ECase:
		w.block("case", first, "of", rest)
	case api.ETry:
		w.block("try", first, "catch", rest)
	case api.EBegin:
		w.block("begin", n.Kids, "", nil)
	case api.EReceive:
		clauses := n.Kids
		if last := len(n.Kids) - 1; last >= 0 && w.l[n.Kids[last]].Kind == api.NAfter {
			clauses = n.Kids[:last]
		}
		w.word("receive")
		w.row(clauses, ";")
		w.row(n.Kids[len(clauses):], ";")
		w.word("end")
	}
}

func (w *teller) block(begin string, first []int, between string, rest []int) {
	w.word(begin)
	w.row(first, ",")
	if between != "" {
		w.word(between)
	}
	w.row(rest, ";")
	w.word("end")
}

func (w *teller) phrase(i int) {
	n := w.l[i]
	switch n.Kind {
	case api.NClause:
		w.clause(n)
	case api.NGuard:
		w.row(n.Kids, ";")
	case api.NConj, api.NBody:
		w.row(n.Kids, ",")
	case api.NAfter:
		w.word("after")
		w.row(n.Kids, "->")
	case api.NArgs:
		w.sign("(")
		w.row(n.Kids, ",")
		w.sign(")")
	case api.NFunction:
		w.row(n.Kids, ";")
		w.dot()
	case api.NExport:
		w.out = append(w.out, tokensOfText("- export ( [")...)
		w.atom(n.Text)
		w.sign("/")
		w.out = append(w.out, api.Token{Kind: api.TInt, Int: n.Int})
		w.out = append(w.out, tokensOfText("] ) .")...)
	case api.NModule:
		w.out = append(w.out, tokensOfText("- module (")...)
		w.atom(n.Text)
		w.out = append(w.out, tokensOfText(") .")...)
		w.row(n.Kids, "")
	case api.NProgram:
		w.row(n.Kids, "")
	}
	// What stands between modules and forms is nothing: the empty sign is taken out again.
	w.out = slices.DeleteFunc(w.out, func(t api.Token) bool { return t == api.Token{Kind: api.TSign} })
}

func tokensOfText(s string) []api.Token {
	l, err := lex.Scan(s)
	if err != nil {
		panic(err)
	}
	return l
}

func (w *teller) clause(n api.Node) {
	switch {
	case len(n.Kids) > 0 && w.l[n.Kids[0]].Kind == api.NArgs:
		w.atom(n.Text)
	case n.Text == "_":
		w.out = append(w.out, api.Token{Kind: api.TVar, Text: "_"})
		w.sign(":")
	case n.Text != "":
		w.atom(n.Text)
		w.sign(":")
	}
	for k, kid := range n.Kids {
		switch {
		case k > 0 && w.l[kid].Kind == api.NGuard:
			w.word("when")
		case k > 0:
			w.sign("->")
		}
		w.node(kid)
	}
}

// areLower: are all Kids below a node lower than what has them?
func areLower(l []api.Node, i int) bool {
	for _, kid := range l[i].Kids {
		if kid < 0 || kid >= i || !areLower(l, kid) {
			return false
		}
	}
	return true
}

// isRight: is a tree one that a program's tokens have? It is asked as the chapter says it: by the tokens.
func isRight(l []api.Node, root int) bool {
	return l[root].Kind == api.NProgram && areLower(l, root) && isProgram(l, root)
}

// inProgram puts nodes behind some, so that node i is a phrase of the program that it tells; nothing, if it is a program itself. What it puts there may be memory that is used again.
func inProgram(l []api.Node, i int) ([]api.Node, int) {
	for l[i].Kind != api.NProgram {
		l = append(l, around(l, i)...)
		i = len(l) - 1
	}
	return l, i
}

// around tells nodes to be put behind some, the last of which has node i as a phrase, and is itself as it must be.
func around(l []api.Node, i int) []api.Node {
	n, next := l[i], len(l)
	body := []api.Node{{Kind: api.ENil}, {Kind: api.NBody, Kids: []int{next}}}
	switch n.Kind {
	case api.NModule:
		return []api.Node{{Kind: api.NProgram, Kids: []int{i}}}
	case api.NFunction, api.NExport:
		return []api.Node{{Kind: api.NModule, Text: "m", Kids: []int{i}}}
	case api.NClause:
		switch {
		case isFun(l, n):
			return []api.Node{{Kind: api.NFunction, Text: n.Text, Int: int64(len(l[n.Kids[0]].Kids)), Kids: []int{i}}}
		case n.Text == "":
			return []api.Node{{Kind: api.ENil}, {Kind: api.ECase, Kids: []int{next, i}}}
		}
		return append(body, api.Node{Kind: api.ETry, Kids: []int{next + 1, i}})
	case api.NArgs:
		return append(body, api.Node{Kind: api.NClause, Text: "f", Kids: []int{i, next + 1}})
	case api.NGuard:
		return append(body, api.Node{Kind: api.NClause, Kids: []int{next, i, next + 1}})
	case api.NConj:
		return []api.Node{{Kind: api.NGuard, Kids: []int{i}}}
	case api.NBody:
		return []api.Node{{Kind: api.NArgs}, {Kind: api.NClause, Text: "f", Kids: []int{next, i}}}
	case api.NAfter:
		return []api.Node{{Kind: api.EReceive, Kids: []int{i}}}
	}
	return []api.Node{{Kind: api.NBody, Kids: []int{i}}}
}

// isFun: has a clause arguments?
func isFun(l []api.Node, n api.Node) bool {
	return len(n.Kids) > 0 && n.Kids[0] >= 0 && n.Kids[0] < len(l) && l[n.Kids[0]].Kind == api.NArgs
}

// isProgram: are these tokens of a text whose tree is the same?
func isProgram(l []api.Node, root int) bool {
	w := teller{l: l}
	w.node(root)
	s, err := lex.Join(w.out)
	if err != nil {
		return false
	}
	again, top, err := parse.Text(s)
	return err == nil && modelSame(l, root, again, top)
}

// spares are trees of every kind, and clauses of every kind, one behind the other; and the numbers of their roots.
func spares(t *testing.T) ([]api.Node, []int) {
	t.Helper()
	var l []api.Node
	var roots []int
	met := map[string]bool{}
	nodes, _, err := parse.Text("-module(m). -export([f/1]). f(X) when 1, a -> {}, [], [b | c]; g() -> A = B, case d of e -> 2 end, begin 3 end, try 4 catch 5 -> 6; error:7 -> 8; _:9 -> 10 end, g ! h, receive i -> j after 11 -> 12 end, k(), m:n(13), -14, 15 + 16, o andalso p, q orelse r.")
	if err != nil {
		t.Fatal(err)
	}
	for i, n := range nodes {
		kind := names[n.Kind]
		if n.Kind == api.NClause {
			kind += " " + n.Text
		}
		if !met[kind] {
			met[kind] = true
			roots = append(roots, i)
		}
	}
	l = append(l, nodes...)
	return l, roots
}

const allKinds = "-module(m). -export([f/1]). f(X) when X, 1; 2 -> {a, 'b c', 3}, [1, 2], [3 | X]; f({}) -> A = 4, case A of 5 when 6 -> 7; 8 -> 9 end, begin 10, 11 end, try 12 catch 13 -> 14; error:15 when 16 -> 17; _:18 -> 19 end, g ! [], receive 20 -> 21; 22 -> 23 after 24 -> 25 end, f(26), m:f(), f(27, 28), not 29, 30 + 31, 32 andalso 33, 34 orelse 35. -module(n)."

// shifted is nodes whose numbers are so much greater.
func shifted(l []api.Node, by int) []api.Node {
	l = copied(l)
	for i := range l {
		for k := range l[i].Kids {
			l[i].Kids[k] += by
		}
	}
	return l
}

// P11.3: every node of a program with all kinds, with one Kid less, one more, each other kind of Kid, in another order, of each other kind, with other fields: held against what the tokens say, as a root, within a small program, and now and then where it stood.
func TestCheckChanged(t *testing.T) {
	extra, kinds := spares(t)
	program, top, err := parse.Text(allKinds)
	if err != nil {
		t.Fatal(err)
	}
	whole := append(copied(extra), shifted(program, len(extra))...)
	root := len(extra) + top
	asked, taken := 0, 0
	buffer := make([]api.Node, 0, len(whole)+16)
	look := func(i int, change func(n *api.Node)) {
		t.Helper()
		asked++
		l := append(buffer, whole...)
		l[i].Kids = slices.Clone(l[i].Kids)
		change(&l[i])
		hold := func(l []api.Node, r int) {
			right := isRight(l, r)
			err := parse.Check(l, r)
			if right && err != nil || !right && !sample.IsFault(err, faulty(0, api.ErrTree)) {
				t.Fatalf("%+v, once %+v, below %+v: %v, right %v", l[i], whole[i], l[r], err, right)
			}
			if right {
				taken++
			}
		}
		hold(l, i)
		hold(inProgram(l, i))
		if asked%9 == 0 {
			hold(l, root)
		}
	}
	for i := len(extra); i < len(whole); i++ {
		had := len(whole[i].Kids)
		for k := range had {
			look(i, func(n *api.Node) { n.Kids = slices.Delete(n.Kids, k, k+1) })
			look(i, func(n *api.Node) { n.Kids = slices.Insert(n.Kids, k, n.Kids[k]) })
			look(i, func(n *api.Node) { n.Kids[k], n.Kids[0] = n.Kids[0], n.Kids[k] })
			for _, other := range append(kinds, i, i+1, len(whole), -1, math.MaxInt, math.MinInt) {
				look(i, func(n *api.Node) { n.Kids[k] = other })
			}
		}
		for _, other := range append(kinds, i) {
			look(i, func(n *api.Node) { n.Kids = append(n.Kids, other) })
			look(i, func(n *api.Node) { n.Kids = slices.Insert(n.Kids, 0, other) })
			look(i, func(n *api.Node) { n.Kids = slices.Insert(n.Kids, had/2, other) })
		}
		look(i, func(n *api.Node) { n.Kids = nil })
		for kind := api.NodeKind(-1); kind < 32; kind++ {
			look(i, func(n *api.Node) { n.Kind = kind })
			look(i, func(n *api.Node) { *n = api.Node{Kind: kind, Kids: n.Kids} })
			look(i, func(n *api.Node) { *n = api.Node{Kind: kind, Text: n.Text, Int: n.Int} })
		}
		for _, text := range oddTexts {
			look(i, func(n *api.Node) { n.Text = text })
			look(i, func(n *api.Node) { n.Mod = text })
		}
		for _, n := range []int64{-1, 0, 1, 2, 3, api.MaxInt, api.MaxInt + 1, math.MinInt64, math.MaxInt64} {
			look(i, func(node *api.Node) { node.Int = n })
		}
		look(i, func(n *api.Node) { n.At = -1 << 40 })
	}
	if taken < 2000 {
		t.Errorf("only %d of %d are right", taken, asked)
	}
}

var oddTexts = []string{
	"", "a", "X", "_", "_X", "X@1", "end", "when", "throw", "error", "exit", "f", "g", "m", "A b", " X", "X ", "X\n", "'a'", "1", "Xä", "\xff", "a\xc3",
	"+", "-", "not", "*", "/", "=", "!", "==", "/=", "=<", "<=", "<", ">=", ">", "=:=", "=/=", "++", "--", "or", "xor", "div", "rem", "and", "andalso", "orelse", ".", "->", "(", "+ ",
	strings.Repeat("a", 255), strings.Repeat("a", 256), strings.Repeat("X", 255), strings.Repeat("X", 256), strings.Repeat("ä", 127), strings.Repeat("ä", 128),
}

// P11.3: what each kind takes, literally; a and z stand for expressions.
func TestCheckKinds(t *testing.T) {
	a := tree{api.Node{Kind: api.EAtom, Text: "a"}, nil}
	of := func(kind api.NodeKind, kids ...tree) tree { return tree{api.Node{Kind: kind}, kids} }
	as := func(text string, t tree) tree {
		t.node.Text = text
		return t
	}
	count := func(n int64, t tree) tree {
		t.node.Int = n
		return t
	}
	body := of(api.NBody, a)
	args := of(api.NArgs)
	guard := of(api.NGuard, of(api.NConj, a))
	plain := of(api.NClause, a, body)
	caught := as("exit", plain)
	fun := as("f", of(api.NClause, args, body))
	function := as("f", of(api.NFunction, fun))
	after := of(api.NAfter, a, body)
	export := as("f", of(api.NExport))
	module := as("m", of(api.NModule))
	right := []tree{
		count(0, of(api.EInt)), count(api.MaxInt, of(api.EInt)), as("", of(api.EAtom)), as("end", of(api.EAtom)), as("X", of(api.EVar)), as("_", of(api.EVar)),
		of(api.ETuple), of(api.ETuple, a, a, a), of(api.ENil), of(api.EList, a, a), of(api.EList, a, a, a, of(api.ENil)), of(api.EMatch, a, a), of(api.ESend, a, a), of(api.EAndAlso, a, a), of(api.EOrElse, a, a),
		of(api.ECase, a, plain), of(api.ECase, a, plain, plain), of(api.EBegin, body), of(api.ETry, body, caught), of(api.ETry, body, caught, as("_", plain), as("throw", plain), as("error", plain)),
		of(api.EReceive, plain), of(api.EReceive, plain, plain, after), of(api.EReceive, after), as("", of(api.ECall)), as("f", of(api.ECall, a, a)), as("-", of(api.EUnary, a)), as("xor", of(api.EBinary, a, a)),
		plain, caught, fun, as("", fun), of(api.NClause, a, guard, body), as("f", of(api.NClause, args, guard, body)), guard, of(api.NGuard, of(api.NConj, a, a), of(api.NConj, a)), of(api.NBody, a, a), after, args, of(api.NArgs, a, a),
		function, as("f", of(api.NFunction, fun, as("g", of(api.NClause, of(api.NArgs, a), body)))), count(2, as("g", of(api.NFunction, as("g", of(api.NClause, of(api.NArgs, a, a), body)), fun))),
		module, as("", module), as("m", of(api.NModule, export, function, function, export)), of(api.NProgram, module), of(api.NProgram, module, module), export, count(api.MaxInt, export),
	}
	for _, one := range right {
		l := listOf(one)
		if one.node.Kind != api.NProgram {
			wrong(t, write(one, false)+" as a root", l, len(l)-1, api.ErrTree)
		}
		l, root := inProgram(l, len(l)-1)
		wrong(t, write(one, false), l, root, api.OK)
	}
	for _, one := range []tree{
		count(-1, of(api.EInt)), count(api.MaxInt+1, of(api.EInt)), as("a", of(api.EInt)), of(api.EInt, a), as("\xff", of(api.EAtom)), as(strings.Repeat("a", 256), of(api.EAtom)), count(1, a), of(api.EAtom, a),
		of(api.EVar), as("x", of(api.EVar)), as("X ", of(api.EVar)), as("X Y", of(api.EVar)), as("_", of(api.EVar, a)), as("a", of(api.ETuple)), of(api.ETuple, body), of(api.ENil, a), of(api.EList), of(api.EList, a), of(api.EList, a, body),
		of(api.EMatch, a), of(api.EMatch, a, a, a), of(api.ESend, a), of(api.EAndAlso, a, a, a), of(api.EOrElse, a), as("=", of(api.EMatch, a, a)), of(api.ECase, a), of(api.ECase, plain), of(api.ECase, a, caught), of(api.ECase, a, as("f", plain)), of(api.ECase, a, fun), of(api.ECase, a, plain, a), of(api.ECase, a, plain, after),
		of(api.EBegin), of(api.EBegin, a), of(api.EBegin, body, body), of(api.ETry, body), of(api.ETry, body, plain), of(api.ETry, a, caught), of(api.ETry, body, as("_x", plain)), of(api.ETry, body, as("f", plain)), of(api.ETry, body, fun), of(api.ETry, body, as("exit", fun)), of(api.ETry, body, caught, body),
		of(api.EReceive), of(api.EReceive, after, plain), of(api.EReceive, after, after), of(api.EReceive, caught), of(api.EReceive, as("f", plain)), of(api.EReceive, a), as("\xff", of(api.ECall)), as("f", of(api.ECall, body)), as("++", of(api.EUnary, a)), as("+", of(api.EUnary, a, a)), of(api.EUnary, a),
		as("=", of(api.EBinary, a, a)), as("!", of(api.EBinary, a, a)), as("andalso", of(api.EBinary, a, a)), as("orelse", of(api.EBinary, a, a)), as("not", of(api.EBinary, a, a)), of(api.EBinary, a, a), as("+", of(api.EBinary, a)), as("/", of(api.EBinary, a, a)), as("<=", of(api.EBinary, a, a)),
		of(api.NClause, body), of(api.NClause, a), of(api.NClause, a, guard), of(api.NClause, a, a), of(api.NClause, a, body, guard), of(api.NClause, a, guard, guard, body), of(api.NClause, a, body, body), as("f", plain), as("\xff", fun), count(1, plain), of(api.NClause, guard, body),
		of(api.NGuard), of(api.NGuard, a), of(api.NConj), of(api.NConj, guard), of(api.NBody), of(api.NBody, body), of(api.NAfter, a), of(api.NAfter, body), of(api.NAfter, body, a), of(api.NAfter, a, a), of(api.NAfter, a, body, body), of(api.NArgs, args), as("f", args),
		as("f", of(api.NFunction)), as("g", of(api.NFunction, fun)), count(1, function), as("", of(api.NFunction, plain)), as("exit", of(api.NFunction, caught)), as("f", of(api.NFunction, fun, plain)), count(-1, function),
		as("m", of(api.NModule, a)), as("m", of(api.NModule, fun)), as("m", of(api.NModule, module)), as("\xff", module), count(1, module), of(api.NProgram), of(api.NProgram, function), as("m", of(api.NProgram, module)), of(api.NProgram, of(api.NProgram, module)),
		count(-1, export), count(api.MaxInt+1, export), as("\xff", export), as("f", of(api.NExport, a)), of(0), of(18), of(19), of(30), of(-1), of(1 << 40), of(0, a),
	} {
		l := listOf(one)
		wrong(t, write(one, false)+" as a root", l, len(l)-1, api.ErrTree)
		l, root := inProgram(l, len(l)-1)
		wrong(t, write(one, false), l, root, api.ErrTree)
	}
}

// P11.3: a root that is no node.
func TestCheckNoRoot(t *testing.T) {
	l, _, err := parse.Text(allKinds)
	if err != nil {
		t.Fatal(err)
	}
	for _, i := range []int{-1, len(l), len(l) + 1, math.MaxInt, math.MinInt} {
		wrong(t, "no node", l, i, api.ErrTree)
	}
	wrong(t, "no nodes", nil, 0, api.ErrTree)
	wrong(t, "no nodes", []api.Node{}, 0, api.ErrTree)
}

// P11.3: a root of another kind than a program's, of each of these kinds, though all is right below it.
func TestCheckRootKinds(t *testing.T) {
	l, root, err := parse.Text(allKinds)
	if err != nil {
		t.Fatal(err)
	}
	met := map[api.NodeKind]int{}
	for i, n := range l {
		met[n.Kind]++
		code := api.ErrTree
		if i == root {
			code = api.OK
		}
		wrong(t, names[n.Kind]+" "+n.Text+" of a program", l, i, code)
		// Nothing of the program is behind the root, and nothing but its tree ahead of it.
		alone := listOf(treeOf(l, i))
		wrong(t, names[n.Kind]+" "+n.Text+" alone", alone, len(alone)-1, code)
	}
	for kind, name := range names {
		if met[kind] == 0 {
			t.Errorf("no %s was asked", name)
		}
	}
	if len(names) != 27 || met[api.NProgram] != 1 {
		t.Errorf("%d kinds, %d programs", len(names), met[api.NProgram])
	}
	for _, n := range []api.Node{{Kind: api.ECall}, {Kind: api.ENil}, {Kind: api.EAtom}, {Kind: api.EInt}, {Kind: api.ETuple}, {Kind: api.EVar, Text: "X"}, {Kind: api.NArgs}, {Kind: api.NExport}, {Kind: api.NModule}, {Kind: api.NModule, Text: "m"}, {}} {
		wrong(t, show(n), []api.Node{n}, 0, api.ErrTree)
		wrong(t, show(n)+" behind another", []api.Node{{}, n}, 1, api.ErrTree)
	}
}

// P11.3: nodes that are not reached play no part; nodes that are reached twice are as good as two.
func TestCheckReached(t *testing.T) {
	l, root, err := parse.Text(allKinds)
	if err != nil {
		t.Fatal(err)
	}
	odd := []api.Node{{Kind: -1}, {Kind: api.EInt, Int: -1, Kids: []int{0, 1, 2, 99, -1}}, {Text: "\xff"}}
	around := append(append(slices.Clone(odd), shifted(l, len(odd))...), odd...)
	wrong(t, "wrong nodes beside", around, len(odd)+root, api.OK)
	if got := len(parse.Below(around, len(odd)+root)); got != len(l) {
		t.Errorf("%d nodes", got)
	}
	wrong(t, "many nodes beside", append(slices.Clone(l), make([]api.Node, 100000)...), root, api.OK)
	shared := []api.Node{
		{Kind: api.EAtom, Text: "a"}, {Kind: api.NBody, Kids: []int{0, 0}}, {Kind: api.NClause, Kids: []int{0, 1}}, {Kind: api.ECase, Kids: []int{0, 2, 2}}, {Kind: api.EReceive, Kids: []int{2, 2}}, {Kind: api.EBinary, Text: "+", Kids: []int{3, 3}},
		{Kind: api.NBody, Kids: []int{5, 4, 3, 5}}, {Kind: api.NArgs}, {Kind: api.NClause, Text: "f", Kids: []int{7, 6}}, {Kind: api.NFunction, Text: "f", Kids: []int{8, 8}}, {Kind: api.NModule, Text: "m", Kids: []int{9, 9}}, {Kind: api.NProgram, Kids: []int{10, 10}},
	}
	wrong(t, "shared nodes", shared, 11, api.OK)
	shared[2].Text = "throw"
	wrong(t, "a clause of a case, which is a try's", shared, 11, api.ErrTree)
}

// What is put about an expression so that it is a program: so many nodes (NArgs, NBody, NClause, NFunction, NModule, NProgram), of which so many are one above the other.
const (
	nodesAround = 6
	nodesAbove  = 5
)

// inside is a program whose expression is the last of some nodes; its root is the last again.
func inside(l []api.Node) []api.Node {
	l, _ = inProgram(l, len(l)-1)
	return l
}

// chain is nodes one within the other, each the Kid of the next, as many as it is told.
func chain(n int) []api.Node {
	l := []api.Node{{Kind: api.ENil}}
	for i := range n - 1 {
		l = append(l, api.Node{Kind: api.ETuple, Kids: []int{i}})
	}
	return l
}

// high is a program of a height; it has one node more than that.
func high(height int) []api.Node { return inside(chain(height - nodesAbove)) }

// wide is a program of so many nodes, of no great height.
func wide(n int) []api.Node {
	l := make([]api.Node, n-nodesAround)
	top := &l[len(l)-1]
	top.Kind = api.ETuple
	for i := range len(l) - 1 {
		l[i].Kind = api.ENil
		top.Kids = append(top.Kids, i)
	}
	return inside(l)
}

// wrongLast holds what Check answers of the last node as the root.
func wrongLast(t *testing.T, what string, l []api.Node, code api.Errno) {
	t.Helper()
	wrong(t, what, l, len(l)-1, code)
}

// P11.3: sizes and heights at the limits and one beyond.
func TestCheckLimits(t *testing.T) {
	if got := len(high(500)); got != 501 {
		t.Fatalf("%d nodes", got)
	}
	if got := len(wide(65536)); got != 65536 {
		t.Fatalf("%d nodes", got)
	}
	wrongLast(t, "height 500", high(500), api.OK)
	wrongLast(t, "height 501", high(501), api.ErrNest)
	wrongLast(t, "height 65535, 65536 nodes", high(65535), api.ErrNest)
	wrongLast(t, "height 65536, 65537 nodes", high(65536), api.ErrMany)
	wrongLast(t, "far more", high(300000), api.ErrMany)
	wrongLast(t, "65536 nodes", wide(65536), api.OK)
	wrongLast(t, "65537 nodes", wide(65537), api.ErrMany)
	wrongLast(t, "200000 nodes", wide(200000), api.ErrMany)

	// What is not reached plays no part, be it too high or too much.
	wrong(t, "of 65537 nodes one that is not reached", append(wide(65536), api.Node{Kind: api.ENil}), 65535, api.OK)
	wrongLast(t, "height 500 beside 501", append(high(501), shifted(high(500), 502)...), api.OK)
	wrong(t, "height 500 ahead of 501", append(high(500), shifted(high(501), 501)...), 500, api.OK)
}

// P11.3: what is no right tree is told as such, whatever its size and height: be it for a node far below, or for the root.
func TestCheckWhichFirst(t *testing.T) {
	for _, l := range [][]api.Node{high(501), high(65536), wide(65537)} {
		for i := len(l) - nodesAround - 1; i < len(l)-1; i++ {
			wrong(t, "another root, too much", l, i, api.ErrTree)
		}
		l[len(l)-1].Text = "a"
		wrongLast(t, "a root with a Text, too much", l, api.ErrTree)
	}
	broken := high(65536)
	broken[0].Kind = 0
	wrongLast(t, "no tree, too many and too high", broken, api.ErrTree)
	broken = high(501)
	broken[3].Int = 1
	wrongLast(t, "no tree, too high", broken, api.ErrTree)
	broken = wide(65537)
	broken[7].Text = "a"
	wrongLast(t, "no tree, too many", broken, api.ErrTree)
	broken = wide(65537)
	tuple := 65537 - nodesAround - 1
	broken[tuple].Kids[7] = tuple
	wrongLast(t, "too many, with one that holds itself", broken, api.ErrTree)
}

// P11.3: nodes count once, however often they are reached, and the highest way counts, whichever Kid it goes by.
func TestCheckSharedLimits(t *testing.T) {
	often := []api.Node{{Kind: api.ENil}, {Kind: api.ETuple, Kids: make([]int, 100000)}}
	wrongLast(t, "100000 times the same Kid", inside(often), api.OK)
	for _, kids := range [][]int{{0, 493}, {493, 0}, {0, 493, 0}} {
		side := append(chain(494), api.Node{Kind: api.ETuple, Kids: kids})
		wrongLast(t, "height 500", inside(slices.Clip(side)), api.OK)
		side = append(side, api.Node{Kind: api.EList, Kids: []int{0, 494}})
		wrongLast(t, "height 501", inside(side), api.ErrNest)
	}
	wrongLast(t, "height 500, each node twice", inside(doubled(494)), api.OK)
	wrongLast(t, "height 501, each node twice", inside(doubled(495)), api.ErrNest)
}

// Rule 4: Check changes nothing and keeps nothing.
func TestCheckChangesNothing(t *testing.T) {
	l, root, err := parse.Text(allKinds)
	if err != nil {
		t.Fatal(err)
	}
	before := copied(l)
	wrong(t, "right", l, root, api.OK)
	if !slices.EqualFunc(l, before, sameNode) {
		t.Error("nodes are changed")
	}
	l[root].Kids = append(l[root].Kids, root)
	wrong(t, "a root that holds itself", l, root, api.ErrTree)
	wrong(t, "as before", before, root, api.OK)
}

// P11.3: nodes by chance: none panics, and what is right is told by its tokens.
func TestCheckSomeNodes(t *testing.T) {
	r := rand.New(rand.NewSource(31))
	good := 0
	for range 20000 {
		l := make([]api.Node, 1+r.Intn(7))
		for i := range l {
			l[i] = api.Node{Kind: api.NodeKind(r.Intn(30)), At: r.Intn(9)}
			if r.Intn(3) == 0 {
				l[i].Text = oddTexts[r.Intn(len(oddTexts))]
			}
			for k := r.Intn(4); k > 0 && r.Intn(12) > 0; k-- {
				l[i].Kids = append(l[i].Kids, r.Intn(i+1)-r.Intn(40)/39)
			}
		}
		root := r.Intn(len(l))
		in, top := inProgram(l, root)
		for _, c := range []struct {
			l    []api.Node
			root int
		}{{l, root}, {in, top}} {
			if isRight(c.l, c.root) {
				good++
				wrong(t, show(c.l), c.l, c.root, api.OK)
			} else {
				wrong(t, show(c.l), c.l, c.root, api.ErrTree)
			}
		}
	}
	if good < 500 {
		t.Errorf("only %d are right", good)
	}
}
