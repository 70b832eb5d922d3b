package code_test

import (
	"fmt"
	"slices"
	"strconv"
	"strings"
	"testing"

	"heddle/api"
	"heddle/code"
	"heddle/sample"
	"heddle/term"
)

var (
	num, word, ref, pid = sample.Int, sample.Atom, sample.Ref, sample.Pid
	tuple, list, null   = sample.Tuple, sample.List, sample.Nil
)

// names are those of the instructions, as the chapter tells them.
var names = strings.Fields("const load store pop dup tuple list bif call tail remote leave return jump branch is parts cons same raise try guard done send act peek next take wait")

// insns is code by its text: instructions with a `;` between them, each a name (or an Op's number) with its A and B, 0 where they are not told. `3*pop` is three of them.
func insns(text string) []api.Insn {
	var l []api.Insn
	for part := range strings.SplitSeq(text, ";") {
		times := 1
		if count, rest, ok := strings.Cut(part, "*"); ok {
			times, part = atoi(strings.TrimSpace(count)), rest
		}
		words := append(strings.Fields(part), "0", "0")
		op := slices.Index(names, words[0]) + 1
		if op == 0 {
			op = atoi(words[0])
		}
		l = append(l, slices.Repeat([]api.Insn{{Op: api.Op(op), A: atoi(words[1]), B: atoi(words[2])}}, times)...)
	}
	return l
}

func atoi(s string) int {
	n, err := strconv.Atoi(s)
	if err != nil {
		panic(err)
	}
	return n
}

// consts are the constants of programs below: 0 is 7, 1 is {m,f}.
func consts() []api.Term {
	return []api.Term{
		num(7), tuple(word("m"), word("f")), word("a"), tuple(word("a"), num(1)), tuple(num(1), word("a")), tuple(word("a")), tuple(word("a"), word("b"), word("c")),
		list(word("a"), word("b")), list(word("a"), word("b"), null()), tuple(), null(), pid("n@h", 1, 5, 0), tuple(word("A b"), word("")), tuple(tuple(word("a"), word("b")), word("c")),
	}
}

// fun is a function by its code's text.
func fun(name string, arity, locals int, text string) api.Fun {
	return api.Fun{Name: name, Arity: arity, Locals: locals, Code: insns(text)}
}

// prog is a program of one module, m, with these functions.
func prog(funs ...api.Fun) api.Code {
	return api.Code{Consts: consts(), Mods: []api.Mod{{Name: "m", Funs: funs}}}
}

// of is a program of one function, without arguments and with two locals.
func of(text string) api.Code { return prog(fun("f", 0, 2, text)) }

// upTo is code that makes the stack so high, with one instruction for each term.
func upTo(height int) string {
	if height == 0 {
		return ""
	}
	return strconv.Itoa(height) + "*const 0;"
}

// fault is one of this layer, with nothing under it.
func fault(at int, code api.Errno) api.Fault { return api.Fault{Layer: "code", At: at, Code: code} }

// show is a program's text, be it well formed or not, cut short.
func show(c api.Code) string {
	var out strings.Builder
	for _, t := range c.Consts {
		s, err := term.Print(t)
		if err != nil {
			s = "no term"
		}
		fmt.Fprintf(&out, "const %s\n", s)
		if out.Len() > 500 {
			break
		}
	}
	for _, m := range c.Mods {
		fmt.Fprintf(&out, "module %q\nexport %v\n", m.Name, m.Exports)
		for _, f := range m.Funs {
			fmt.Fprintf(&out, "fun %q %d %d\n", f.Name, f.Arity, f.Locals)
			for i, in := range f.Code {
				name := strconv.Itoa(int(in.Op))
				if in.Op > 0 && int(in.Op) <= len(names) {
					name = names[in.Op-1]
				}
				fmt.Fprintf(&out, "%d: %s %d %d\n", i, name, in.A, in.B)
				if out.Len() > 2000 {
					return out.String() + "..\n"
				}
			}
		}
	}
	return out.String()
}

// well: a program is well formed.
func well(t *testing.T, c api.Code) {
	t.Helper()
	if err := code.Check(c); err != nil {
		t.Errorf("Check: %v; of the well formed program\n%s", err, show(c))
	}
}

// refuses: Check, Height and Print refuse a program with this number at this place, with these faults under it and nothing beside it.
func refuses(t *testing.T, c api.Code, want api.Errno, at int, under ...api.Fault) {
	t.Helper()
	chain := append([]api.Fault{fault(at, want)}, under...)
	if err := code.Check(c); !sample.IsFault(err, chain...) {
		t.Errorf("Check: %v; want %v; of the program\n%s", err, chain, show(c))
		return
	}
	for _, place := range []int{0, -1} {
		if h, err := code.Height(c, place, place); h != 0 || !sample.IsFault(err, chain...) {
			t.Errorf("Height(%d, %d) = %d, %v; want %v; of the program\n%s", place, place, h, err, chain, show(c))
		}
	}
	if s, err := code.Print(c); s != "" || !sample.IsFault(err, chain...) {
		t.Errorf("Print = %.100q, %v; want %v; of the program\n%s", s, err, chain, show(c))
	}
}

// noFlow: the one function of a program is refused for its ways, at this instruction.
func noFlow(t *testing.T, text string, at int) {
	t.Helper()
	refuses(t, of(text), api.ErrFlow, at)
}

// unset: the one function of a program is refused for a local, at this instruction.
func unset(t *testing.T, text string, at int) {
	t.Helper()
	refuses(t, of(text), api.ErrUnset, at)
}

// high: the function of that number is as high at most.
func high(t *testing.T, c api.Code, number, want int) {
	t.Helper()
	if h, err := code.Height(c, 0, number); h != want || err != nil {
		t.Errorf("Height = %d, %v; want %d; of the program\n%s", h, err, want, show(c))
	}
}
