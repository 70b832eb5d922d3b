package match_test

import (
	"cmp"
	"errors"
	"fmt"
	"slices"
	"strconv"
	"strings"
	"testing"

	"heddle/api"
	"heddle/match"
	"heddle/parse"
	"heddle/sample"
	"heddle/term"
)

var (
	num, word, ref, pid = sample.Int, sample.Atom, sample.Ref, sample.Pid
	tuple, list, null   = sample.Tuple, sample.List, sample.Nil
)

// proper is the proper list of elements.
func proper(elements ...api.Term) api.Term {
	if len(elements) == 0 {
		return null()
	}
	return list(append(slices.Clone(elements), null())...)
}

// program is the rules of one, with its nodes.
type program struct {
	*match.Rules
	l    []api.Node
	root int
}

// made is the program of a module's forms.
func made(t testing.TB, forms string) program {
	t.Helper()
	l, root, err := parse.Text("-module(m). " + forms)
	if err != nil {
		t.Fatalf("%s: %v", cut(forms), err)
	}
	r, err := match.New(l, root)
	if err != nil || r == nil {
		t.Fatalf("%s: %v", cut(forms), err)
	}
	return program{r, l, root}
}

// nodes are those of a kind below the root, by their places in the text.
func (p program) nodes(kind api.NodeKind) []int {
	var numbers []int
	for _, i := range parse.Below(p.l, p.root) {
		if p.l[i].Kind == kind {
			numbers = append(numbers, i)
		}
	}
	slices.SortStableFunc(numbers, func(a, b int) int { return cmp.Compare(p.l[a].At, p.l[b].At) })
	return numbers
}

// patterns are those of the first function's first clause.
func (p program) patterns() []int { return p.l[p.nodes(api.NArgs)[0]].Kids }

// tests are those of the first row of the first guard.
func (p program) tests() []int { return p.l[p.nodes(api.NConj)[0]].Kids }

// body is what stands in the first body.
func (p program) body() []int { return p.l[p.nodes(api.NBody)[0]].Kids }

// clauses are those of the first function, if there is one.
func (p program) clauses() []int {
	for _, i := range p.nodes(api.NFunction) {
		return p.l[i].Kids
	}
	return nil
}

// inner are the clauses of the first case, receive or try.
func (p program) inner() []int {
	var numbers []int
	for _, i := range p.nodes(api.NClause) {
		if p.l[p.l[i].Kids[0]].Kind != api.NArgs {
			numbers = append(numbers, i)
		}
	}
	return numbers
}

// cut keeps what a test tells of great texts short.
func cut(s string) string {
	if len(s) > 300 {
		return s[:300] + ".."
	}
	return s
}

// read is a term by its text.
func read(t testing.TB, text string) api.Term {
	t.Helper()
	x, err := term.Read(text)
	if err != nil {
		t.Fatalf("%q: %v", cut(text), err)
	}
	return x
}

// row is terms by their texts, with ; between; - is a slot that is unset.
func row(t testing.TB, text string) []api.Term {
	t.Helper()
	var terms []api.Term
	for _, s := range strings.Split(text, ";") {
		switch s = strings.TrimSpace(s); s {
		case "":
		case "-":
			terms = append(terms, api.Term{})
		default:
			terms = append(terms, read(t, s))
		}
	}
	return terms
}

// show is the text of terms, as row reads it; of what is no term, too.
func show(terms ...api.Term) string {
	var texts []string
	for _, x := range terms {
		s, err := term.Print(x)
		if err != nil {
			s = fmt.Sprintf("%.200v", x)
		}
		if sample.IsZero(x) {
			s = "-"
		}
		texts = append(texts, s)
	}
	return strings.Join(texts, "; ")
}

// same: are terms the same, one by one, in all their fields?
func same(a, b []api.Term) bool { return slices.EqualFunc(a, b, sample.Same) }

// who is a process.
func who() api.Who { return api.Who{Self: pid("n@h", 1, 5, 0), Node: "n@h"} }

// fault is one of this layer, with nothing under it.
func fault(at int, code api.Errno) api.Fault { return api.Fault{Layer: "match", At: at, Code: code} }

// unset is the fault of an unset slot.
func unset(slot int) api.Fault { return fault(slot, api.ErrSlot) }

// told is what a call came to, as a text: the slot of ErrSlot, or what the call answers.
func told(err error, answer string) string {
	var f *api.Fault
	switch {
	case err == nil:
		return answer
	case errors.As(err, &f) && sample.IsFault(err, unset(f.At)):
		return "slot " + strconv.Itoa(f.At)
	}
	return err.Error()
}

// calls are all calls of rules; each tells whether it was refused with these faults, and nothing beside them. The first of patterns, tests, guards and clauses of a program are asked, with what is handed in.
type calls struct {
	p    program
	i    int // the node that Match, Test and Guard are asked of
	term api.Term
	env  []api.Term
	who  api.Who
	rows []int // the clauses that Choose is asked of
	args []api.Term
}

func (c calls) match(t *testing.T, chain ...api.Fault) {
	t.Helper()
	if env, ok, err := c.p.Match(c.i, c.term, c.env); !sample.IsFault(err, chain...) || err == nil || ok || len(env) > 0 {
		t.Errorf("Match(%d, %s, %s): %s, %v, %v; want %v", c.i, cut(show(c.term)), cut(show(c.env...)), cut(show(env...)), ok, err, chain)
	}
}

func (c calls) test(t *testing.T, chain ...api.Fault) {
	t.Helper()
	if x, ok, err := c.p.Test(c.i, c.env, c.who); !sample.IsFault(err, chain...) || err == nil || ok || !sample.IsZero(x) {
		t.Errorf("Test(%d, %s, %v): %s, %v, %v; want %v", c.i, cut(show(c.env...)), c.who, cut(show(x)), ok, err, chain)
	}
}

func (c calls) guard(t *testing.T, chain ...api.Fault) {
	t.Helper()
	if ok, err := c.p.Guard(c.i, c.env, c.who); !sample.IsFault(err, chain...) || err == nil || ok {
		t.Errorf("Guard(%d, %s, %v): %v, %v; want %v", c.i, cut(show(c.env...)), c.who, ok, err, chain)
	}
}

func (c calls) choose(t *testing.T, chain ...api.Fault) {
	t.Helper()
	if k, env, err := c.p.Choose(c.rows, c.args, c.env, c.who); !sample.IsFault(err, chain...) || err == nil || k != 0 || len(env) > 0 {
		t.Errorf("Choose(%v, %s, %s, %v): %d, %s, %v; want %v", c.rows, cut(show(c.args...)), cut(show(c.env...)), c.who, k, cut(show(env...)), err, chain)
	}
}

// kinds are terms of every kind.
func kinds() []api.Term {
	return []api.Term{
		num(0), num(1), num(-1), num(2), num(api.MinInt), num(-api.MaxInt), num(api.MaxInt), num(1 << 32),
		word("true"), word("false"), word("a"), word(""), word("A b"), word("é"), word("n@h"), word("-"),
		ref("n@h", 1, 1, 2, 3), ref("n@h", 1, 5, 0, 0), pid("n@h", 1, 5, 0), pid("m@h", 1, 5, 0),
		tuple(), tuple(num(1)), tuple(num(1), num(2)), tuple(word("a"), word("b")), tuple(tuple(), null()),
		null(), proper(num(1)), proper(num(1), num(2)), proper(null()), list(num(1), num(2)), list(num(1), num(2), word("a")), proper(proper(num(1))), list(tuple(num(1)), tuple()),
	}
}

// noTerm is what is no term, with the faults that are told of it.
type noTerm struct {
	t      api.Term
	faults []api.Fault
}

// at are the faults that this layer tells of it at a place.
func (n noTerm) at(place int) []api.Fault {
	return append([]api.Fault{fault(place, n.faults[0].Code)}, n.faults...)
}

// noTerms are such, none of which is unset.
func noTerms() []noTerm {
	one := func(at int, code api.Errno) []api.Fault { return []api.Fault{{Layer: "term", At: at, Code: code}} }
	under := func(at int, code api.Errno, in int) []api.Fault {
		return append(one(at, code), api.Fault{Layer: "atom", At: in, Code: code})
	}
	itself := make([]api.Term, 1)
	itself[0] = api.Term{Kind: api.KTuple, Args: itself}
	return []noTerm{
		{api.Term{Kind: 8}, one(0, api.ErrTerm)},
		{api.Term{Kind: -1}, one(0, api.ErrTerm)},
		{api.Term{Kind: api.KInt, Int: 1, Text: "x"}, one(0, api.ErrTerm)},
		{api.Term{Kind: api.KNil, Nums: []uint32{1}}, one(0, api.ErrTerm)},
		{num(api.MaxInt + 1), one(0, api.ErrRange)},
		{num(api.MinInt - 1), one(0, api.ErrRange)},
		{word("a\xff"), under(0, api.ErrUTF, 1)},
		{word(strings.Repeat("a", 256)), under(0, api.ErrLong, 0)},
		{pid("n@h", 1, 5), one(0, api.ErrTerm)},
		{pid("nh", 1, 5, 0), under(0, api.ErrName, 0)},
		{list(num(1)), one(0, api.ErrTerm)},
		{list(num(1), proper(num(2))), one(0, api.ErrTerm)},
		{tuple(num(1), api.Term{}), one(2, api.ErrTerm)},
		{tuple(tuple(), word("\xff")), under(2, api.ErrUTF, 0)},
		{tuple(sample.Ones(api.MaxSize)...), one(api.MaxSize, api.ErrMany)},
		{sample.Chain(api.MaxDepth, num(1)), one(api.MaxDepth, api.ErrDeep)},
		{api.Term{Kind: api.KTuple, Args: itself}, one(api.MaxDepth, api.ErrDeep)},
	}
}

// unsetToo is unset by its Kind, whatever else it holds.
func unsetToo() api.Term {
	return api.Term{Text: "x", Int: 1, Nums: []uint32{1}, Args: []api.Term{{Kind: 9}}}
}

// strangers are processes that are none, with the faults that are told of them; of several the first.
func strangers() []struct {
	who    api.Who
	faults []api.Fault
} {
	type row = struct {
		who    api.Who
		faults []api.Fault
	}
	self, name := who().Self, []api.Fault{fault(0, api.ErrName), {Layer: "atom", Code: api.ErrName}}
	all := []row{{api.Who{Node: "n@h"}, noTerm{faults: []api.Fault{{Layer: "term", Code: api.ErrTerm}}}.at(0)}}
	for _, n := range noTerms() {
		all = append(all, row{api.Who{Self: n.t, Node: "n@h"}, n.at(0)}, row{api.Who{Self: n.t}, n.at(0)})
	}
	for _, x := range kinds() {
		if x.Kind != api.KPid {
			all = append(all, row{api.Who{Self: x, Node: "n@h"}, []api.Fault{fault(0, api.ErrArg)}}, row{api.Who{Self: x, Node: "n"}, []api.Fault{fault(0, api.ErrArg)}})
		}
	}
	for _, s := range []string{"", "n", "n@", "@h", "@", "n@h@h", "n.n@h", "n h@h", "é@h", "n@h\x00", "'n@h'", strings.Repeat("n", 63) + "@h", "n@\xff"} {
		all = append(all, row{api.Who{Self: self, Node: s}, name})
	}
	return all
}
