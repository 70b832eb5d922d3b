package compile_test

import (
	"fmt"
	"slices"
	"sort"
	"strconv"
	"strings"
	"testing"

	"heddle/api"
	"heddle/code"
	"heddle/compile"
	"heddle/parse"
	"heddle/sample"
)

// tooMany holds that a text is refused, for a limit is met.
func tooMany(t *testing.T, text string) {
	t.Helper()
	if c, err := compile.Source(text); !isNothing(c) || !sample.IsFault(err, fault(0, api.ErrMany)) {
		t.Errorf("%s: %d modules, %v", cut(text), len(c.Mods), err)
	}
}

// numbered is so many texts with a blank between, in each of which # is its number.
func numbered(n int, text string) string {
	var all []string
	for i := range n {
		all = append(all, strings.ReplaceAll(text, "#", strconv.Itoa(i)))
	}
	return strings.Join(all, " ")
}

// listed is likewise, with commas between.
func listed(n int, text string) string {
	return strings.TrimSuffix(strings.TrimSpace(numbered(n, text+",")), ",")
}

// P16.1: 64 modules and 65, 1024 functions and 1025.
func TestModulesAndFunctions(t *testing.T) {
	modules, functions := "-module(m#). -export([f/0]). f() -> m#:f(). f(_) -> #.", "-module(m)."+" -export([f0/0, f1023/0]). "
	if c := made(t, numbered(64, modules)); len(c.Mods) != 64 || outline(c)[:24] != "m0: f/0 f/1[0]; m1: f/0 " {
		t.Error(outline(c))
	}
	tooMany(t, numbered(65, modules))
	tooMany(t, numbered(300, "-module(m#)."))
	if c := made(t, functions+numbered(1024, "f#() -> #.")); len(c.Mods[0].Funs) != 1024 || fmt.Sprint(c.Mods[0].Exports) != "[0 1023]" {
		t.Error(outline(c))
	}
	tooMany(t, functions+numbered(1025, "f#() -> #."))
	tooMany(t, "-module(k). f() -> 1. -module(m). "+numbered(1025, "f#() -> #."))
	if c := made(t, "-module(k). "+numbered(1024, "f#() -> #.")+" -module(m). "+numbered(1024, "f#() -> #.")); len(c.Mods[1].Funs) != 1024 {
		t.Error(outline(c))
	}
	// What check refuses is told ahead of that.
	for _, text := range []string{numbered(65, modules) + " g() -> X.", numbered(1025, "-module(m#).") + " -module(m5).", functions + numbered(1025, "f#() -> #.") + " f1() -> 2."} {
		l, root := tree(t, text)
		refusedNodes(t, text, l, root)
	}
}

// forms are functions' texts, which grow with n.
func forms() map[string]func(n int) string {
	rep := strings.Repeat
	nest := func(open, inner, shut string) func(n int) string {
		return func(n int) string { return "f(V) -> " + rep(open, n) + inner + rep(shut, n) + "." }
	}
	each := func(text string) func(n int) string {
		return func(n int) string { return "f(V) -> V, " + listed(n, text) + "." }
	}
	within := func(ahead, text, behind string) func(n int) string {
		return func(n int) string { return "f(V) -> " + ahead + listed(n, text) + behind + "." }
	}
	clauses := func(ahead, clause, behind string) func(n int) string {
		return func(n int) string {
			return "f(V) -> " + ahead + strings.TrimSuffix(numbered(n, clause+";"), ";") + behind + "."
		}
	}
	return map[string]func(n int) string{
		"row": each("#"), "names": each("X# = #"), "atoms": each("a#"), "tuples": nest("{", "V", "}"), "tuple": within("{", "a#", "}"), "list": within("[", "#", "]"), "lists": nest("[", "V", "]"), "tails": nest("[1 | ", "V", "]"), "tuples, wide": nest("{1, a, ", "V", ", []}"),
		"unary": nest("- ", "V", ""), "binary": nest("(V + ", "1", ")"), "binary, left": nest("(", "1", " - V)"), "andalso": nest("(V andalso ", "V", ")"), "orelse, left": nest("(", "V", " orelse V)"), "sends": nest("(V ! ", "V", ")"), "sends, left": nest("(", "V", " ! V)"),
		"calls": nest("f(", "V", ")"), "calls of others": nest("k:f(V, ", "V", ")"), "built-ins": nest("hd(", "V", ")"), "acts": nest("link(", "V", ")"), "raises": nest("throw(", "V", ")"), "begins": nest("begin V, ", "V", " end"), "calls, wide": func(n int) string {
			return "f(V) -> {V, m:g(" + listed(min(n, 255), "a#") + "), [" + listed(max(1, n-255), "#") + "]}."
		},
		"many calls": each("k#:f#(V)"), "many acts": each("self()"), "many sends": each("a# ! #"), "many cases": each("case V of # -> 1 end"), "many tries": each("try # catch # -> # end"), "many receives": each("receive # -> # after # -> # end"), "many orelse": each("(V orelse (V andalso V))"),
		"matches": func(n int) string { return "f(V) -> " + strings.ReplaceAll(listed(n, "X#"), ",", " =") + " = V." }, "matches of tuples": nest("{[V]} = (", "V", ")"), "matches in tuples": nest("{a, X} = {a, ", "V", "}"), "many matches": each("{X#, [Y# | 1]} = V"),
		"patterns": func(n int) string { return "f({" + listed(n, "X#") + "}) -> 1." }, "patterns that test": within("{", "V", "} = V"), "pattern of tuples": func(n int) string { return "f(" + rep("{", n) + "X" + rep("}", n) + ") -> X." },
		"pattern, right": func(n int) string { return "f(" + rep("{1, ", n) + "X" + rep("}", n) + ") -> X." }, "pattern, left": func(n int) string { return "f(" + rep("{", n) + "X" + rep(", 1}", n) + ") -> X." }, "pattern of a list": within("[", "a#", " | X] = V"), "pattern of lists": func(n int) string { return "f(" + rep("[", n) + "X" + rep(", a]", n) + ") -> X." },
		"pattern of matches": func(n int) string { return "f(" + strings.ReplaceAll(listed(n, "{#, X#}"), "},", "} =") + ") -> 1." }, "patterns with signs": within("{", "- #", "} = V"),
		"cases, wide": clauses("case V of ", "{#, X#} when X# > 1 -> X#", " end"), "cases": nest("case ", "V", " of {V, [V | _]} -> 1; _ -> 2 end"), "cases in bodies": nest("case V of 1 -> 2; _ -> ", "V", " end"), "cases, names": clauses("case V of ", "# -> X = #", " end, X"), "cases, patterns": clauses("case V of ", "{{#, X}, [Y | X]} -> Y", " end"),
		"tries, wide": clauses("try V catch ", "exit:{#, X} when X -> X", " end"), "tries": nest("try ", "V", " catch _:1 -> 2 end"), "tries in clauses": nest("try V catch 1 -> ", "V", " end"), "tries in tuples": nest("{1, try ", "V", " catch error:_ -> a end}"), "tries in guards": clauses("try V catch ", "X when X; X == # -> X", " end"),
		"receives, wide": clauses("receive ", "{#, X#} when X# > 1 -> X#", " end"), "receives": nest("receive X -> ", "V", " end"), "receives in times": nest("receive {X, 1} -> 1 after ", "V", " -> 2 end"), "receives in bodies": nest("receive a -> 1 after 5 -> ", "V", " end"), "receives, names": clauses("receive ", "{X, Y, #} -> {X, Y}", " after X = Y = 5 -> {X, Y} end"),
		"names of times": func(n int) string {
			return "f() -> receive {" + listed(n, "X#") + "} -> 1 after begin " + listed(n, "X# = 1") + " end -> {" + listed(n, "X#") + "} end."
		},
		"names of times, often": func(n int) string {
			return "f() -> " + rep("receive {X, Y, Z, 1} -> 1 after ", n) + "begin {X, Y, Z} = {1, 2, 3}, Z end" + rep(" -> {X, Y, Z}, Z end", n) + "."
		},
		"guards": func(n int) string { return "f(V) when " + strings.ReplaceAll(listed(n, "V == #"), ",", ";") + " -> 1." }, "guards, rows": func(n int) string { return "f(V) when " + listed(n, "V > #") + " -> 1." }, "guards, deep": func(n int) string { return "f(V) when " + rep("(V andalso ", n) + "V" + rep(")", n) + " -> 1." }, "guards, tuples": func(n int) string {
			return "f(V) when {" + listed(n, "self()") + "} == [" + listed(n, "node()") + "] -> 1."
		},
		"clauses": func(n int) string {
			return strings.TrimSuffix(numbered(n, "f(#, X#, [X#]) when X# == # -> X#;"), ";") + "."
		}, "arguments": func(n int) string {
			return "f(" + listed(min(n, 255), "X#") + ") -> {" + listed(max(0, n-255), "X#") + "}."
		}, "arguments, tuples": func(n int) string { return "f(" + listed(min(n, 255), "{X#}") + ") -> 1." },
		"call of itself": func(n int) string {
			return "f(" + listed(min(n, 255), "_") + ") -> f(" + listed(min(n, 255), "1") + ")."
		},
	}
}

// nodesOf is how many nodes stand below a text's first function, with itself.
func nodesOf(text string) int {
	l, root, err := parse.Text(text)
	if err != nil {
		// It is too long, or too high.
		return api.MaxTree
	}
	for _, form := range l[l[root].Kids[0]].Kids {
		if l[form].Kind == api.NFunction {
			return len(parse.Below(l, form))
		}
	}
	return 0
}

// P16.1: no function of 400 nodes is refused, whatever stands in it.
func TestNoneIsRefused(t *testing.T) {
	for name, form := range forms() {
		n := sort.Search(600, func(n int) bool { return nodesOf("-module(m). "+form(n+2)) > 401 })
		text := "-module(m). " + form(n+1)
		if size := nodesOf(text); size > 401 || size < 380 {
			t.Errorf("%s: %d nodes", name, size)
		}
		well(t, text, made(t, text))
	}
}

// P16.1: nor is a program of 20000 nodes, with as many constants as it can have, in 64 modules.
func TestGreatProgram(t *testing.T) {
	var all []api.Node
	var modules []int
	add := func(n api.Node) int {
		all = append(all, n)
		return len(all) - 1
	}
	constant := 0
	for m := range 64 {
		var functions []int
		for f := range 39 {
			var phrases []int
			for range 3 {
				constant++
				phrases = append(phrases, add(api.Node{Kind: api.EInt, Int: int64(constant)}))
			}
			args, body := add(api.Node{Kind: api.NArgs}), add(api.Node{Kind: api.NBody, Kids: phrases})
			clause := add(api.Node{Kind: api.NClause, Text: fmt.Sprint("f", f), Kids: []int{args, body}})
			functions = append(functions, add(api.Node{Kind: api.NFunction, Text: fmt.Sprint("f", f), Kids: []int{clause}}))
		}
		modules = append(modules, add(api.Node{Kind: api.NModule, Text: fmt.Sprint("m", m), Kids: functions}))
	}
	root := add(api.Node{Kind: api.NProgram, Kids: modules})
	c, err := compile.Compile(all, root)
	if err != nil || code.Check(c) != nil || len(c.Mods) != 64 || len(c.Consts) < 64*39*3 {
		t.Errorf("%d nodes: %d modules, %d constants, %v", len(all), len(c.Mods), len(c.Consts), err)
	}
	if len(all) > 20000 || len(all) < 17000 {
		t.Errorf("%d nodes", len(all))
	}
}

// holdGreat holds that nodes are refused, for a limit is met, or are code that is well formed; it tells whether they are taken.
func holdGreat(t *testing.T, what string, l []api.Node, root int) bool {
	t.Helper()
	c, err := compile.Compile(l, root)
	if err == nil {
		if wrong := code.Check(c); wrong != nil {
			t.Errorf("%s: %v", what, wrong)
		}
		return true
	}
	if !isNothing(c) || !sample.IsFault(err, fault(0, api.ErrMany)) {
		t.Errorf("%s: %v, %v", what, len(c.Mods), err)
	}
	return false
}

// P16.1: greater functions are refused with ErrMany at 0, or are code that is well formed.
func TestGreaterFunctions(t *testing.T) {
	taken, refused := 0, 0
	for name, form := range forms() {
		for _, n := range []int{450, 1000, 1024, 4096, 4097, 8000} {
			text := "-module(m). " + form(n)
			l, root, err := parse.Text(text)
			if err != nil {
				// It is too long, or too high.
				continue
			}
			if len(chain(errOf(compile.Compile(l, root)))) == 2 {
				// Too many names, or arguments.
				refusedNodes(t, text, l, root)
			} else if holdGreat(t, fmt.Sprint(name, " ", n), l, root) {
				taken++
			} else {
				refused++
			}
		}
	}
	if taken < 100 || refused < 10 {
		t.Errorf("%d are taken, %d are refused", taken, refused)
	}
}

func errOf(_ api.Code, err error) error { return err }

// greatNodes are programs by hand, of as many nodes as may be.
func greatNodes() map[string][]api.Node {
	fill := func(n int, leaf api.Node, parent api.NodeKind, text string) []api.Node {
		var l []api.Node
		var kids []int
		for i := range n {
			leaf.Int = int64(i)
			if leaf.Kind != api.EInt {
				leaf.Int = 0
			}
			l = append(l, leaf)
			kids = append(kids, i)
		}
		return around(append(l, api.Node{Kind: parent, Text: text, Kids: kids}))
	}
	chained := func(n int) []api.Node {
		l := []api.Node{{Kind: api.EInt}}
		for range n {
			top := len(l) - 1
			var kids []int
			for range 60000 / n {
				l = append(l, api.Node{Kind: api.EInt})
				kids = append(kids, len(l)-1)
			}
			l = append(l, api.Node{Kind: api.ETuple, Kids: append(kids, top)})
		}
		return around(l)
	}
	return map[string][]api.Node{
		"tuple 4096": fill(4096, api.Node{Kind: api.EInt}, api.ETuple, ""), "tuple 4097": fill(4097, api.Node{Kind: api.EInt}, api.ETuple, ""), "tuple 65529": fill(65529, api.Node{Kind: api.EInt}, api.ETuple, ""),
		"list 4096": fill(4097, api.Node{Kind: api.EInt}, api.EList, ""), "list 4097": fill(4098, api.Node{Kind: api.EInt}, api.EList, ""), "list 65528": fill(65529, api.Node{Kind: api.EInt}, api.EList, ""),
		"high, 2 wide": chained(2), "high, 3 wide": chained(3), "high, 20 wide": chained(20), "high, 400 wide": chained(400),
	}
}

// P16.1: the same of trees by hand: of tuples and lists of more parts than an instruction has, of more terms than a stack has, of more instructions than a function has.
func TestGreaterTrees(t *testing.T) {
	want := map[string]bool{"tuple 4096": true, "list 4096": true}
	for name, l := range greatNodes() {
		if got := holdGreat(t, name, l, len(l)-1); got != want[name] {
			t.Errorf("%s: taken: %v", name, got)
		}
	}
	row := func(n int) []api.Node {
		l := around([]api.Node{{Kind: api.EInt}})
		body := slices.IndexFunc(l, func(n api.Node) bool { return n.Kind == api.NBody })
		var kids []int
		for i := range n {
			kids = append(kids, i)
		}
		for i := range l {
			for k := range l[i].Kids {
				l[i].Kids[k] += n - 1
			}
		}
		l[body].Kids = kids
		return append(slices.Repeat([]api.Node{{Kind: api.EInt}}, n-1), l...)
	}
	for _, n := range []int{1, 20000, 40000, 65530} {
		l := row(n)
		if got := holdGreat(t, fmt.Sprint("a row of ", n), l, len(l)-1); got != (n < 30000) {
			t.Errorf("a row of %d: taken: %v", n, got)
		}
	}
}
