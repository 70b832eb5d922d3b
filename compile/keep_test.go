package compile_test

import (
	"reflect"
	"slices"
	"testing"

	"heddle/api"
	"heddle/code"
	"heddle/compile"
	"heddle/sample"
)

// printed is a program's text.
func printed(t *testing.T, c api.Code) string {
	t.Helper()
	s, err := code.Print(c)
	if err != nil {
		t.Fatal(err)
	}
	return s
}

// roomy is nodes in memory of their own, with room behind all lists that says so.
func roomy(l []api.Node) []api.Node {
	all := make([]api.Node, 0, len(l)+1)
	for _, n := range l {
		n.Kids = append(slices.Clone(n.Kids), 77)[:len(n.Kids)]
		all = append(all, n)
	}
	return append(all, api.Node{Text: "room"})[:len(l)]
}

// untouched: are nodes as roomy has made them, what lies behind their lists too?
func untouched(l, was []api.Node) bool {
	if len(l) != len(was) || l[:len(l)+1][len(l)].Text != "room" {
		return false
	}
	for i, n := range l {
		if n.Kind != was[i].Kind || n.Text != was[i].Text || n.Mod != was[i].Mod || n.Int != was[i].Int || n.At != was[i].At || !slices.Equal(n.Kids, was[i].Kids) || n.Kids[:len(n.Kids)+1][len(n.Kids)] != 77 {
			return false
		}
	}
	return true
}

// scribbleNodes writes over all memory that nodes reach.
func scribbleNodes(l []api.Node) {
	for i := range l {
		kids := l[i].Kids[:cap(l[i].Kids)]
		for k := range kids {
			kids[k] = -5
		}
		l[i] = api.Node{Kind: -5, Text: "scribbled"}
	}
}

const keptText = "-module(m). -export([f/1, g/0]). f({X, Y}) when X > Y; X == self() -> receive {Y, Z} -> k:p(Z) after Z = 5 -> [k:p(X), k:q(), m:g() | Z] end; f(X) -> try g() catch exit:{X} -> {X, a, -1, []} end. g() -> 'A b'. -module(k). -export([p/1, q/0]). p(X) -> m:f(X). q() -> p(-1)."

// Rule 4: nodes are not changed; and changed afterwards, they change no answer, neither one that was told nor a later one.
func TestNodesAreNotKept(t *testing.T) {
	was, root := tree(t, keptText)
	l := roomy(was)
	c, err := compile.Compile(l, root)
	if err != nil || !untouched(l, was) {
		t.Fatalf("%v; untouched: %v", err, untouched(l, was))
	}
	text := printed(t, c)
	scribbleNodes(l)
	if got := printed(t, c); got != text {
		t.Errorf("the program was changed with the nodes: %s\n it was %s", got, text)
	}
	c, err = compile.Compile(roomy(was), root)
	if err != nil || printed(t, c) != text {
		t.Errorf("later: %v, %v", c, err)
	}
	for _, wrong := range []string{"-module(m). f() -> X.", numbered(65, "-module(m#).")} {
		was, root := tree(t, wrong)
		l := roomy(was)
		if _, err := compile.Compile(l, root); err == nil || !untouched(l, was) {
			t.Errorf("%s: %v; untouched: %v", wrong, err, untouched(l, was))
		}
	}
}

// Rule 4: answers that are changed change no nodes, no other answer, and no later one.
func TestAnswersAreNew(t *testing.T) {
	was, root := tree(t, keptText)
	l := roomy(was)
	one, _ := compile.Compile(l, root)
	other, _ := compile.Compile(l, root)
	text := printed(t, one)
	sample.ScribbleCode(one)
	if got := printed(t, other); got != text || !untouched(l, was) {
		t.Errorf("untouched: %v; %s\n want %s", untouched(l, was), got, text)
	}
	if got := printed(t, made(t, keptText)); got != text {
		t.Errorf("%s\n want %s", got, text)
	}
}

// stretch is the memory of a list.
type stretch struct{ from, to uintptr }

// stretches are those of all lists that a value reaches.
func stretches(v reflect.Value) []stretch {
	var all []stretch
	switch v.Kind() {
	case reflect.Struct:
		for i := range v.NumField() {
			all = append(all, stretches(v.Field(i))...)
		}
	case reflect.Slice:
		if v.Cap() > 0 {
			all = append(all, stretch{v.Pointer(), v.Pointer() + uintptr(v.Cap())*v.Type().Elem().Size()})
		}
		for i := range v.Len() {
			all = append(all, stretches(v.Index(i))...)
		}
	}
	return all
}

// Rule 4: no two lists of one answer share memory, nor do an answer and what was handed in.
func TestListsAreApart(t *testing.T) {
	l, root := tree(t, keptText)
	c, err := compile.Compile(l, root)
	if err != nil {
		t.Fatal(err)
	}
	all := append(stretches(reflect.ValueOf(c)), stretches(reflect.ValueOf(l))...)
	slices.SortFunc(all, func(a, b stretch) int { return int(int64(a.from) - int64(b.from)) })
	for i := 1; i < len(all); i++ {
		if all[i].from < all[i-1].to {
			t.Errorf("two lists share memory: %v, %v", all[i-1], all[i])
		}
	}
	if len(all) < 50 {
		t.Errorf("%d lists", len(all))
	}
}
