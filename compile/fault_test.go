package compile_test

import (
	"errors"
	"fmt"
	"math"
	"strings"
	"testing"

	"heddle/api"
	"heddle/check"
	"heddle/compile"
	"heddle/parse"
	"heddle/sample"
)

// fault is one of this layer.
func fault(at int, code api.Errno) api.Fault { return api.Fault{Layer: "compile", At: at, Code: code} }

// chain is the faults of an error, the outermost one ahead, each without what is under it.
func chain(err error) []api.Fault {
	var all []api.Fault
	var f *api.Fault
	for errors.As(err, &f) {
		all = append(all, api.Fault{Layer: f.Layer, At: f.At, Code: f.Code})
		err = f.Under
	}
	return all
}

// isNothing: is it what stands beside an error?
func isNothing(c api.Code) bool { return len(c.Consts) == 0 && len(c.Mods) == 0 }

// holdRefused holds that an answer is the refusal of the layer below: its number, at its place, all its faults under; it tells the number.
func holdRefused(t *testing.T, what string, c api.Code, got, below error) api.Errno {
	t.Helper()
	under := chain(below)
	if len(under) == 0 {
		t.Fatalf("%s: the layer below takes it", cut(what))
	}
	want := append([]api.Fault{fault(under[0].At, under[0].Code)}, under...)
	if !isNothing(c) || !sample.IsFault(got, want...) || !errors.Is(got, under[len(under)-1].Code) {
		t.Errorf("%s: %v, %v; want %v", cut(what), c, got, want)
	}
	return under[0].Code
}

// refusedNodes holds that Compile refuses nodes as check does, and tells the number.
func refusedNodes(t *testing.T, what string, l []api.Node, root int) api.Errno {
	t.Helper()
	_, below := check.Check(l, root)
	c, err := compile.Compile(l, root)
	return holdRefused(t, what, c, err, below)
}

// tree is the nodes of a text.
func tree(t testing.TB, text string) ([]api.Node, int) {
	t.Helper()
	l, root, err := parse.Text(text)
	if err != nil {
		t.Fatalf("%s: %v", cut(text), err)
	}
	return l, root
}

// refusedRules are texts that break a rule of chapter 12, at the byte that ^ marks.
func refusedRules() map[string]api.Errno {
	many := strings.Repeat("1, ", 255) + "1"
	var names []string
	for n := range api.MaxVars + 1 {
		names = append(names, fmt.Sprintf("X%d = 1", n))
	}
	names[api.MaxVars] = "^" + names[api.MaxVars]
	return map[string]api.Errno{
		"^-module(erlang).": api.ErrModule, "-module(m). -module(k).\n ^-module(m).": api.ErrModule, "-module(m). -export([f/0, ^f/1]). f() -> 1.": api.ErrExport, "-module(m). f() -> 1. ^f() -> 2.": api.ErrTwice,
		"-module(m). ^f(" + many + ") -> 1.": api.ErrArity, "-module(m). f() -> ^m:g(" + many + ").": api.ErrArity, "-module(m). f(1) -> 1; ^f() -> 2.": api.ErrClause, "-module(m). f(1) -> 1; ^g(1) -> 2.": api.ErrClause,
		"-module(m). f(1 ^+ 1) -> 2.": api.ErrPattern, "-module(m). f(X) when X ^= 1 -> 2.": api.ErrGuard, "-module(m). f(X) when ^f(X) -> 2.": api.ErrGuard,
		"-module(m). f() -> ^X.": api.ErrUnbound, "-module(m). f() -> ^_.": api.ErrUnbound, "-module(m). f(X) -> case X of 1 -> Y = 2; 2 -> 3 end, ^Y.": api.ErrUnsafe, "-module(m). f() -> try X = 1 catch _:_ -> 2 end, ^X.": api.ErrUnsafe,
		"-module(m). f() -> ^g().": api.ErrUnknown, "-module(m). f() -> ^erlang:g().": api.ErrUnknown, "-module(m). f() -> " + strings.Join(names, ", ") + ".": api.ErrVars,
	}
}

// P16.1, P16.3: check's number, its fault under, at its place: each that there is.
func TestRefusedByCheck(t *testing.T) {
	met := map[api.Errno]int{}
	for marked, code := range refusedRules() {
		at, text := strings.Index(marked, "^"), strings.Replace(marked, "^", "", 1)
		l, root := tree(t, text)
		met[refusedNodes(t, text, l, root)]++
		_, below := check.Check(l, root)
		c, err := compile.Source(text)
		holdRefused(t, text, c, err, below)
		if got := chain(err); len(got) != 2 || got[0] != fault(at, code) || got[1].Layer != "check" {
			t.Errorf("%s: %v, not %d at %d", cut(text), err, code, at)
		}
	}
	for code := api.ErrModule; code <= api.ErrArity; code++ {
		if met[code] == 0 {
			t.Errorf("%v was not met", code)
		}
	}
	if met[api.ErrTwice] == 0 {
		t.Error("a function twice was not met")
	}
}

// P16.1, rule 1: rows of nodes that are no program's, any roots.
func TestRefusedTrees(t *testing.T) {
	for _, root := range []int{-1, 0, 1, math.MaxInt, math.MinInt} {
		if code := refusedNodes(t, "no nodes", nil, root); code != api.ErrTree {
			t.Error(code)
		}
		refusedNodes(t, "no nodes", []api.Node{}, root)
	}
	text := "-module(m). -export([f/1]). f(X) when X > 1 -> receive {X, Y} -> [Y | - 1]; a -> try X catch error:1 -> 2 end after 5 -> case X of _ -> m:f(1) ! begin a andalso b end end end."
	l, last := tree(t, text)
	for root := -2; root < len(l)+2; root++ {
		if root != last && refusedNodes(t, fmt.Sprint("the root ", root), l, root) != api.ErrTree {
			t.Errorf("the root %d", root)
		}
	}
	for i := range l {
		for _, change := range []func(n *api.Node){
			func(n *api.Node) { n.Kind = 0 }, func(n *api.Node) { n.Kind = -1 }, func(n *api.Node) { n.Kind = 30 }, func(n *api.Node) { n.Mod = "\xff" }, func(n *api.Node) { n.Int = -1 },
			func(n *api.Node) { n.Kids = append(n.Kids, i) }, func(n *api.Node) { n.Kids = append(n.Kids, -1) }, func(n *api.Node) { n.Kids = append(n.Kids, math.MaxInt) },
		} {
			odd := cloned(l)
			change(&odd[i])
			if code := refusedNodes(t, fmt.Sprintf("%v", odd[i]), odd, last); code != api.ErrTree {
				t.Errorf("%v: %d", odd[i], code)
			}
		}
	}
	twice := cloned(l)
	twice[last].Kids = append(twice[last].Kids, twice[last].Kids[0])
	if code := refusedNodes(t, "a module twice", twice, last); code != api.ErrTwice {
		t.Error(code)
	}
	for _, x := range []struct {
		l    []api.Node
		code api.Errno
	}{{wide(65537), api.ErrMany}, {high(501), api.ErrNest}} {
		if code := refusedNodes(t, "too much", x.l, len(x.l)-1); code != x.code {
			t.Errorf("%d, not %d", code, x.code)
		}
	}
	if c, err := compile.Compile(high(500), 500); err != nil || len(c.Mods) != 1 {
		t.Errorf("height 500: %v, %v", c, err)
	}
}

// cloned is nodes in memory of their own.
func cloned(l []api.Node) []api.Node {
	var all []api.Node
	for _, n := range l {
		n.Kids = append([]int{}, n.Kids...)
		all = append(all, n)
	}
	return all
}

// around is a program whose one function, f/0, has just the phrase with which the nodes end.
func around(l []api.Node) []api.Node {
	inner := len(l) - 1
	return append(l, api.Node{Kind: api.NArgs}, api.Node{Kind: api.NBody, Kids: []int{inner}}, api.Node{Kind: api.NClause, Text: "f", Kids: []int{inner + 1, inner + 2}},
		api.Node{Kind: api.NFunction, Text: "f", Kids: []int{inner + 3}}, api.Node{Kind: api.NModule, Text: "m", Kids: []int{inner + 4}}, api.Node{Kind: api.NProgram, Kids: []int{inner + 5}})
}

// wide is a program with so many nodes.
func wide(nodes int) []api.Node {
	var l []api.Node
	var kids []int
	for i := range nodes - 7 {
		l = append(l, api.Node{Kind: api.ENil})
		kids = append(kids, i)
	}
	return around(append(l, api.Node{Kind: api.ETuple, Kids: kids}))
}

// high is a program of a height.
func high(height int) []api.Node {
	l := []api.Node{{Kind: api.ENil}}
	for i := range height - 6 {
		l = append(l, api.Node{Kind: api.ETuple, Kids: []int{i}})
	}
	return around(l)
}

// P16.3: parse's number, its fault under, at its place, and those of lex and atom under that.
func TestRefusedTexts(t *testing.T) {
	for text, want := range map[string]api.Fault{
		"": fault(0, api.ErrSyntax), "f() -> 1.": fault(0, api.ErrSyntax), "-module(m)": fault(10, api.ErrSyntax), "-module(m). f() -> .": fault(19, api.ErrSyntax), "-module(m). f() -> 1 < 2 < 3.": fault(25, api.ErrSyntax), "-module(m). f() -> 1": fault(20, api.ErrSyntax), "-module(m). f() -> case 1 of end.": fault(29, api.ErrSyntax),
		"-module(m). f() -> \"": fault(19, api.ErrByte), "-module(m). f() -> \xff": fault(19, api.ErrByte), "-module(m). f() -> 2#12.": fault(19, api.ErrNumber), "-module(m). f() -> 576460752303423488.": fault(19, api.ErrNumber), "-module(m). f() -> $": fault(19, api.ErrChar),
		"-module(m). f() -> 'a": fault(19, api.ErrQuote), "-module(m). f() -> 'a\\q'.": fault(19, api.ErrEscape), "-module(m). f() -> '\xff'.": fault(19, api.ErrUTF),
		"-module(m). f() -> " + strings.Repeat("x", 256) + ".": fault(19, api.ErrLong), "-module(m). f() -> 1." + strings.Repeat(" ", 65536): fault(0, api.ErrLong),
		"-module(m). f() -> " + strings.Repeat("{", 500) + strings.Repeat("}", 500) + ".": fault(0, api.ErrNest),
	} {
		_, _, below := parse.Text(text)
		c, err := compile.Source(text)
		holdRefused(t, text, c, err, below)
		if got := chain(err); len(got) < 2 || got[0] != want || got[1].Layer != "parse" {
			t.Errorf("%q: %v, not %v", cut(text), err, want)
		}
	}
}

// P16.3: a text that is cut anywhere, or in which a byte is another one, is refused as the layers below refuse it, or it is the code of its tree.
func TestSourceIsCompile(t *testing.T) {
	whole := "-module(m). -export([f/1]). f(X) when X > 1; X == a -> receive {X, Y} when Y -> Y; Z -> [Z | X] after X -> try hd(X) catch _:E -> {E, 'a b'} end end.\n-module(k). % no more"
	var texts []string
	for at := range whole {
		texts = append(texts, whole[:at], whole[:at]+"'"+whole[at+1:], whole[:at]+"X"+whole[at+1:], whole[:at]+whole[at+1:])
	}
	taken := 0
	for _, text := range append(texts, whole) {
		c, err := compile.Source(text)
		l, root, below := parse.Text(text)
		if below != nil {
			holdRefused(t, text, c, err, below)
			continue
		}
		want, wantErr := compile.Compile(l, root)
		if fmt.Sprint(c, chain(err)) != fmt.Sprint(want, chain(wantErr)) {
			t.Errorf("%s: %v, %v; not %v, %v", text, c, err, want, wantErr)
		}
		if err == nil {
			well(t, text, c)
			taken++
		}
	}
	if taken < 20 {
		t.Errorf("%d texts are taken", taken)
	}
}
