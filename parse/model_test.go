package parse_test

import (
	"fmt"
	"slices"
	"strconv"
	"strings"
	"testing"

	"heddle/api"
	"heddle/parse"
	"heddle/sample"
)

// chapter is the chapter's grammar as it stands there, but that '_' is a var's.
const chapter = `
program  ::= module { module }
module   ::= '-' 'module' '(' atom ')' dot { form }
form     ::= '-' 'export' '(' '[' [ fa { ',' fa } ] ']' ')' dot | fun { ';' fun } dot
fa       ::= atom '/' int
fun      ::= atom args [ 'when' guard ] '->' body
args     ::= '(' [ exp { ',' exp } ] ')'
guard    ::= conj { ';' conj }          conj ::= exp { ',' exp }          body ::= exp { ',' exp }
exp      ::= e1 [ ( '=' | '!' ) exp ]
e1       ::= e2 [ 'orelse' e1 ]
e2       ::= e3 [ 'andalso' e2 ]
e3       ::= e4 [ ( '==' | '/=' | '=<' | '<' | '>=' | '>' | '=:=' | '=/=' ) e4 ]
e4       ::= e5 [ ( '++' | '--' ) e4 ]
e5       ::= e6 { ( '+' | '-' | 'or' | 'xor' ) e6 }
e6       ::= e7 { ( '*' | 'div' | 'rem' | 'and' ) e7 }
e7       ::= ( '+' | '-' | 'not' ) e7 | e8
e8       ::= int | var | atom ':' atom args | atom args | atom | '(' exp ')'
           | '{' [ exp { ',' exp } ] '}' | '[' ']' | '[' exp { ',' exp } [ '|' exp ] ']'
           | 'begin' body 'end' | 'case' exp 'of' clauses 'end' | 'receive' receive 'end' | 'try' body 'catch' catches 'end'
clauses  ::= clause { ';' clause }      clause ::= exp [ 'when' guard ] '->' body
receive  ::= after | clauses [ after ]  after ::= 'after' exp '->' body
catches  ::= catch { ';' catch }        catch ::= [ class ':' ] clause
class    ::= 'throw' | 'error' | 'exit' | '_'
`

// grammar is rules in their plainest form: each name has rows of names and terminals.
type grammar struct {
	rows  map[string][][]string
	empty map[string]bool // names of which nothing at all is one
	words []string        // what is not read yet
}

// readGrammar reads rules as the chapter writes them; brackets become names of their own.
func readGrammar(text string) *grammar {
	g := &grammar{rows: map[string][][]string{}, empty: map[string]bool{}, words: strings.Fields(text)}
	for len(g.words) > 0 {
		name := g.words[0]
		g.words = g.words[2:]
		g.rows[name] = g.choices()
	}
	for range g.rows {
		for name, rows := range g.rows {
			g.empty[name] = slices.ContainsFunc(rows, g.isEmpty)
		}
	}
	return g
}

func (g *grammar) isEmpty(row []string) bool {
	return !slices.ContainsFunc(row, func(name string) bool { return !g.empty[name] })
}

func (g *grammar) choices() [][]string {
	rows := [][]string{{}}
	for len(g.words) > 0 && (len(g.words) < 2 || g.words[1] != "::=") {
		word := g.words[0]
		g.words = g.words[1:]
		last := len(rows) - 1
		switch word {
		case "|":
			rows = append(rows, []string{})
		case "]", "}", ")":
			return rows
		case "[", "{", "(":
			name := "#" + strconv.Itoa(len(g.rows))
			g.rows[name] = nil
			inner := g.choices()
			if word == "{" {
				for i := range inner {
					inner[i] = append(inner[i], name)
				}
			}
			if word != "(" {
				inner = append(inner, []string{})
			}
			g.rows[name] = inner
			rows[last] = append(rows[last], name)
		default:
			rows[last] = append(rows[last], word)
		}
	}
	return rows
}

// item is a row of a name of which a part has been read, from a token on.
type item struct {
	name      string
	row, read int
	from      int
}

// set is items, each once.
type set struct {
	items []item
	has   map[item]bool
}

func newSet() *set { return &set{has: map[item]bool{}} }

func (s *set) add(i item) {
	if !s.has[i] {
		s.has[i] = true
		s.items = append(s.items, i)
	}
}

// reader follows all ways in which tokens may be a program's beginning at once (as Earley's does).
type reader struct {
	g    *grammar
	sets []*set
	last api.Token
}

func newReader(g *grammar) *reader {
	r := &reader{g: g}
	first := newSet()
	for n := range g.rows["program"] {
		first.add(item{name: "program", row: n})
	}
	r.sets = append(r.sets, first)
	r.close()
	return r
}

// next is the name or terminal that an item goes on with.
func (r *reader) next(i item) (string, bool) {
	row := r.g.rows[i.name][i.row]
	if i.read == len(row) {
		return "", false
	}
	return row[i.read], true
}

// close adds to the last set all that follows without a token.
func (r *reader) close() {
	here := len(r.sets) - 1
	all := r.sets[here]
	for at := 0; at < len(all.items); at++ {
		i := all.items[at]
		name, more := r.next(i)
		if !more {
			for _, above := range r.sets[i.from].items {
				if wanted, more := r.next(above); more && wanted == i.name {
					above.read++
					all.add(above)
				}
			}
			continue
		}
		for n := range r.g.rows[name] {
			all.add(item{name: name, row: n, from: here})
		}
		// A name of nothing was perhaps read ahead of this item, which would then be missed.
		if r.g.empty[name] {
			i.read++
			all.add(i)
		}
	}
}

// takes: may the token stand next?
func (r *reader) takes(t api.Token) bool { return len(r.behind(t).items) > 0 }

// behind is the set behind a token, as yet without what follows from it.
func (r *reader) behind(t api.Token) *set {
	all := newSet()
	for _, i := range r.sets[len(r.sets)-1].items {
		if name, more := r.next(i); more && r.fits(name, t) {
			i.read++
			all.add(i)
		}
	}
	return all
}

// take goes on behind a token that may stand next.
func (r *reader) take(t api.Token) {
	r.sets = append(r.sets, r.behind(t))
	r.last = t
	r.close()
}

// drop goes back ahead of the last token; the one ahead of it must be told.
func (r *reader) drop(last api.Token) {
	r.sets = r.sets[:len(r.sets)-1]
	r.last = last
}

// isDone: are the tokens so far a program's?
func (r *reader) isDone() bool {
	for _, i := range r.sets[len(r.sets)-1].items {
		if _, more := r.next(i); !more && i.name == "program" {
			return true
		}
	}
	return false
}

// fits: is the token such a terminal?
func (r *reader) fits(terminal string, t api.Token) bool {
	switch terminal {
	case "atom":
		return t.Kind == api.TAtom
	case "var":
		return t.Kind == api.TVar
	case "int":
		return t.Kind == api.TInt
	case "dot":
		return t.Kind == api.TDot
	case "'_'":
		return t.Kind == api.TVar && t.Text == "_"
	case "':'":
		if r.last.Kind == api.TAtom && r.last.Text == "" {
			return false
		}
	}
	text, quoted := strings.CutPrefix(terminal, "'")
	text, _ = strings.CutSuffix(text, "'")
	kind := api.TSign
	switch {
	case !quoted:
		return false
	case slices.Contains([]string{"module", "export", "throw", "error", "exit"}, text):
		kind = api.TAtom
	case text[0] >= 'a' && text[0] <= 'z':
		kind = api.TWord
	}
	return t.Kind == kind && t.Text == text
}

// misplaced tells the number of the first token that may not stand there; -1: they are a program's.
func misplaced(g *grammar, l []api.Token) int {
	r := newReader(g)
	for i, t := range l {
		if !r.takes(t) {
			return i
		}
		r.take(t)
	}
	if r.isDone() {
		return -1
	}
	return len(l)
}

// tree is a tree as tests write it down: a node, whose own Kids play no part, and those below it.
type tree struct {
	node api.Node
	kids []tree
}

// treeOf takes a tree out of a list; only of right numbers.
func treeOf(l []api.Node, i int) tree {
	t := tree{node: l[i]}
	for _, kid := range l[i].Kids {
		t.kids = append(t.kids, treeOf(l, kid))
	}
	return t
}

// listOf lays a tree as a list; the root is the last.
func listOf(t tree) []api.Node {
	var l []api.Node
	var lay func(t tree) int
	lay = func(t tree) int {
		n := t.node
		n.Kids = nil
		for _, kid := range t.kids {
			n.Kids = append(n.Kids, lay(kid))
		}
		l = append(l, n)
		return len(l) - 1
	}
	lay(t)
	return l
}

var names = map[api.NodeKind]string{
	api.ETuple: "tuple", api.ENil: "nil", api.EList: "list", api.EMatch: "match", api.ECase: "case", api.EBegin: "begin", api.ETry: "try", api.ESend: "send", api.EReceive: "receive",
	api.ECall: "call", api.EUnary: "unary", api.EBinary: "binary", api.EAndAlso: "andalso", api.EOrElse: "orelse", api.EInt: "int", api.EAtom: "atom", api.EVar: "var",
	api.NClause: "clause", api.NGuard: "guard", api.NConj: "conj", api.NBody: "body", api.NAfter: "after", api.NArgs: "args", api.NFunction: "function", api.NModule: "module", api.NProgram: "program", api.NExport: "export",
}

// plain: is it letters and digits, the first one from one letter to another?
func plain(s string, from, to byte) bool {
	odd := func(c rune) bool {
		return c != '_' && (c < '0' || c > '9') && (c < 'a' || c > 'z') && (c < 'A' || c > 'Z')
	}
	return s != "" && s[0] >= from && s[0] <= to && !strings.ContainsFunc(s, odd)
}

// write writes a tree: each kind by its name, but ints, atoms and vars by what they are; places, if they are asked for.
func write(t tree, places bool) string {
	n := t.node
	var s string
	switch {
	case n.Kind == api.EInt && n.Text == "" && n.Mod == "":
		s = strconv.FormatInt(n.Int, 10)
	case n.Kind == api.EAtom && plain(n.Text, 'a', 'z') && n.Mod == "" && n.Int == 0:
		s = n.Text
	case n.Kind == api.EVar && (plain(n.Text, 'A', 'Z') || plain(n.Text, '_', '_')) && n.Mod == "" && n.Int == 0:
		s = n.Text
	default:
		s = names[n.Kind]
		if s == "" {
			s = "kind " + strconv.Itoa(int(n.Kind))
		}
		if n.Mod != "" {
			s += " " + strings.Trim(strconv.Quote(n.Mod), `"`) + ":"
		}
		if n.Text != "" {
			s += " " + strings.Trim(strconv.Quote(n.Text), `"`)
		}
		if n.Int != 0 {
			s += " /" + strconv.FormatInt(n.Int, 10)
		}
	}
	if places {
		s += "@" + strconv.Itoa(n.At)
	}
	if len(t.kids) == 0 {
		return s
	}
	var all []string
	for _, kid := range t.kids {
		all = append(all, write(kid, places))
	}
	return s + "(" + strings.Join(all, ", ") + ")"
}

// cut keeps what a test tells of great things short.
func cut(s string) string {
	if len(s) > 300 {
		return s[:300] + ".."
	}
	return s
}

func show(v any) string { return cut(fmt.Sprintf("%+v", v)) }

// tokens writes the last of some tokens: each with its kind, and its Text or Int.
func tokens(l []api.Token) string {
	var s string
	for _, t := range l[max(0, len(l)-40):] {
		s += fmt.Sprintf("%d:%.10q/%d ", t.Kind, t.Text, t.Int)
	}
	return s
}

// faulty is a fault of this layer.
func faulty(at int, code api.Errno) api.Fault { return api.Fault{Layer: "parse", At: at, Code: code} }

// isRefused: did a call answer just this chain of faults, and nothing beside it?
func isRefused(l []api.Node, root int, err error, chain ...api.Fault) bool {
	return len(l) == 0 && root == 0 && sample.IsFault(err, chain...)
}

// grown tells the tree of an answer whose nodes are just those of a tree, each once, with lower Kids.
func grown(t *testing.T, l []api.Node, root int, err error) tree {
	t.Helper()
	if err != nil {
		t.Fatalf("refused: %v", err)
	}
	above := make([]int, len(l))
	for i, n := range l {
		for _, kid := range n.Kids {
			if kid < 0 || kid >= i {
				t.Fatalf("node %d of %d has the Kid %d", i, len(l), kid)
			}
			above[kid]++
		}
	}
	if root < 0 || root >= len(l) {
		t.Fatalf("root %d of %d nodes", root, len(l))
	}
	for i, n := range above {
		if i == root && n != 0 || i != root && n != 1 {
			t.Fatalf("%d nodes are above node %d, root %d", n, i, root)
		}
	}
	return treeOf(l, root)
}

// parsed is the tree of tokens that are a program's.
func parsed(t *testing.T, l []api.Token) tree {
	t.Helper()
	nodes, root, err := parse.Parse(l)
	return grown(t, nodes, root, err)
}

// read is the tree of a program's text.
func read(t *testing.T, s string) tree {
	t.Helper()
	nodes, root, err := parse.Text(s)
	if err != nil {
		t.Fatalf("%s: %v", cut(strconv.Quote(s)), err)
	}
	return grown(t, nodes, root, err)
}
