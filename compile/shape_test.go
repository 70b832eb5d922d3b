package compile_test

import (
	"fmt"
	"strings"
	"testing"

	"heddle/api"
	"heddle/compile"
)

// outline is a program's modules, with their functions and exports.
func outline(c api.Code) string {
	var all []string
	for _, m := range c.Mods {
		text := m.Name + ":"
		for _, f := range m.Funs {
			text += fmt.Sprintf(" %s/%d", f.Name, f.Arity)
		}
		all = append(all, fmt.Sprint(text, m.Exports))
	}
	return strings.Join(all, "; ")
}

// P16.1: the modules in order, with their names; in each the functions in order, with name and arity; exports, rising, each once.
func TestOutline(t *testing.T) {
	for text, want := range map[string]string{
		"-module(m).": "m:[]",
		"-module('A b'). -module('').  -module(a).":             "A b:[]; :[]; a:[]",
		"-module(m). f() -> 1.":                                 "m: f/0[]",
		"-module(m). -export([f/0]). f() -> 1.":                 "m: f/0[0]",
		"-module(m). f() -> 1. -export([f/0]).":                 "m: f/0[0]",
		"-module(m). -export([]). f() -> 1. -export([]).":       "m: f/0[]",
		"-module(m). -export([f/0, f/0]). f() -> 1.":            "m: f/0[0]",
		"-module(m). -export([f/0]). f() -> 1. -export([f/0]).": "m: f/0[0]",
		"-module(m). z() -> 1. -export([f/1, f/0]). f() -> 1. a(1) -> 1. f(1) -> 2; f(_) -> 3. -export([z/0, f/1]).":                                  "m: z/0 f/0 a/1 f/1[0 1 3]",
		"-module(m). -export([b/0, a/0]). -export([c/0, a/0, b/0]). -export([d/3]). a() -> 1. b() -> 1. c() -> 1. d(X, Y, Z) -> {X, Y, Z}. e() -> 1.": "m: a/0 b/0 c/0 d/3 e/0[0 1 2 3]",
		"-module(z). -export([f/0]). f() -> 1. -module(a). g() -> 1. f() -> 1. -export([f/0]). -module(m). f() -> 1.":                                 "z: f/0[0]; a: g/0 f/0[1]; m: f/0[]",
		"-module(m). -export([hd/1, self/0]). self() -> 1. 'F'() -> 1. hd(X) -> X.":                                                                   "m: self/0 F/0 hd/1[0 2]",
	} {
		if got := outline(made(t, text)); got != want {
			t.Errorf("%s: %s\n want %s", text, got, want)
		}
	}
}

// P16.1: whatever numbers nodes have, and whatever stands beside the tree, the program is the same.
func TestNumbersOfNodes(t *testing.T) {
	text := "-module(m). -export([g/1, f/2]). f(X, {Y}) when X > Y; Y == a -> receive {X, Z} -> Z; [Z | _] -> Z after Z = 5 -> g(Z) end, try k:p(Z) catch exit:W -> W ! - 1 end; f(_, _) -> true andalso 'A b'. g(X) -> begin [X, self() | X] end. -module(k). -export([p/1]). p(X) -> case X of 1 -> X = 2; _ -> throw(X) end."
	l, root := tree(t, text)
	want := fmt.Sprint(made(t, text))
	for n := range 50 {
		odd, top := renumbered(l, root, n)
		c, err := compile.Compile(odd, top)
		if err != nil || fmt.Sprint(c) != want {
			t.Fatalf("numbered anew, %d: %v, %v\n want %s", n, c, err, want)
		}
	}
}

// renumbered is the same tree with other numbers, with nodes of no tree between its own.
func renumbered(l []api.Node, root, seed int) ([]api.Node, int) {
	var odd []api.Node
	var lay func(i int) int
	lay = func(i int) int {
		n := l[i]
		n.Kids = make([]int, len(l[i].Kids))
		for k := range n.Kids {
			// The Kids of a node are laid in an order of their own.
			place := (k*(seed%3+1) + seed) % len(n.Kids)
			for n.Kids[place] != 0 {
				place = (place + 1) % len(n.Kids)
			}
			n.Kids[place] = lay(l[i].Kids[place]) + 1
		}
		for k := range n.Kids {
			n.Kids[k]--
		}
		if (i+seed)%4 == 0 {
			odd = append(odd, api.Node{Kind: api.NodeKind(i % 40), Text: "\xff", Int: -5, Kids: []int{i, -1, 1 << 40}})
		}
		n.At = 7 * seed
		odd = append(odd, n)
		return len(odd) - 1
	}
	top := lay(root)
	return append(odd, api.Node{Kind: api.NProgram, Kids: []int{top}}), top
}

// Rule 4: nil and empty lists of Kids are the same.
func TestNilAndEmpty(t *testing.T) {
	l, root := tree(t, "-module(m). -export([f/0]). f() -> {{}, [], a, self()}. -module(k).")
	want, err := compile.Compile(l, root)
	if err != nil {
		t.Fatal(err)
	}
	for _, kids := range [][]int{nil, {}} {
		odd := cloned(l)
		for i := range odd {
			if len(odd[i].Kids) == 0 {
				odd[i].Kids = kids
			}
		}
		if c, err := compile.Compile(odd, root); err != nil || fmt.Sprint(c) != fmt.Sprint(want) {
			t.Errorf("%v, %v; want %v", c, err, want)
		}
	}
}
