package compile_test

import (
	"fmt"
	"strings"
	"testing"

	"heddle/api"
	"heddle/code"
	"heddle/compile"
	"heddle/parse"
	"heddle/sample"
	"heddle/term"
)

var num, word, tuple = sample.Int, sample.Atom, sample.Tuple

// who is a process.
func who() api.Who { return api.Who{Self: sample.Pid("n@h", 1, 5, 0), Node: "n@h"} }

// cut keeps what a test tells of great texts short.
func cut(s string) string {
	if len(s) > 1200 {
		return s[:1200] + ".."
	}
	return s
}

// read is a term by its text.
func read(t testing.TB, text string) api.Term {
	t.Helper()
	x, err := term.Read(text)
	if err != nil {
		t.Fatalf("%q: %v", cut(text), err)
	}
	return x
}

// show is a term's text.
func show(x api.Term) string {
	s, err := term.Print(x)
	if err != nil {
		return fmt.Sprintf("no term: %.200v", x)
	}
	return s
}

// module is the text of module m with these forms, of which f with so many arguments is exported. A text that names its modules itself is told as it is.
func module(forms string, arity int) string {
	if strings.HasPrefix(forms, "-module") {
		return forms
	}
	return fmt.Sprintf("-module(m). -export([f/%d]). %s", arity, forms)
}

// made is the code of a text that is right, held against package code.
func made(t testing.TB, text string) api.Code {
	t.Helper()
	c, err := compile.Source(text)
	if err != nil {
		t.Fatalf("%s: %v", cut(text), err)
	}
	well(t, text, c)
	return c
}

// well holds that code is well formed, and goes back only where messages are gone through.
func well(t testing.TB, text string, c api.Code) {
	t.Helper()
	if err := code.Check(c); err != nil {
		t.Fatalf("%s: %v", cut(text), err)
	}
	for _, m := range c.Mods {
		for _, f := range m.Funs {
			for at, in := range f.Code {
				calls := in.Op == api.CCall || in.Op == api.CTail || in.Op == api.CRemote || in.Op == api.CLeave || in.Op == api.CSend || in.Op == api.CAct
				if isCounted(in, at) && !calls && in.Op != api.CNext {
					t.Fatalf("%s: %s: the instruction %d is counted: %v", cut(text), f.Name, at, in)
				}
			}
		}
	}
}

// call is a call of a function by its text: its name, and its arguments.
func call(t testing.TB, text string) (string, []api.Term) {
	t.Helper()
	name, args, _ := strings.Cut(strings.TrimSuffix(text, ")"), "(")
	// One argument may be as great as a term can be, so that no tuple holds it.
	if one, err := term.Read(args); err == nil {
		return name, []api.Term{one}
	}
	return name, read(t, "{"+args+"}").Args
}

// trial is a program, what of module m is called, the events that are to be seen, each with what was counted till then, and what comes: ahead of all, then at each event.
type trial struct {
	forms string
	call  string
	want  string
	given []string
}

// hold holds what is seen of both, the code and the tree.
func (x trial) hold(t *testing.T) {
	t.Helper()
	fun, args := call(t, x.call)
	text := module(x.forms, len(args))
	c := made(t, text)
	l, root, err := parse.Text(text)
	if err != nil {
		t.Fatal(err)
	}
	for how, run := range map[string]func(o *outside) api.Term{"code": byCode(c, "m", fun, args), "tree": tellerOf(t, l, root).byTree("m", fun, args)} {
		if got := watch(x.begin(t), run); got != x.want {
			t.Errorf("%s\n %s by its %s: %s\n want %s", cut(text), x.call, how, cut(got), cut(x.want))
		}
	}
}

func (x trial) begin(t *testing.T) *outside {
	t.Helper()
	s := &script{t, x.given}
	o := &outside{plan: s, most: 100000}
	s.next(o)
	return o
}

// holdAll holds several.
func holdAll(t *testing.T, trials []trial) {
	t.Helper()
	for _, x := range trials {
		x.hold(t)
	}
}
