package code_test

import (
	"slices"
	"testing"

	"heddle/api"
	"heddle/code"
	"heddle/sample"
)

// roomy is the same program in memory of its own, with room behind all lists that says so.
func roomy(c api.Code) api.Code {
	d := api.Code{Consts: roomyTerms(c.Consts)}
	for _, m := range c.Mods {
		m.Exports = append(slices.Clone(m.Exports), 77)[:len(m.Exports)]
		funs := make([]api.Fun, 0, len(m.Funs)+1)
		for _, f := range m.Funs {
			f.Code = append(slices.Clone(f.Code), api.Insn{Op: 77})[:len(f.Code)]
			funs = append(funs, f)
		}
		m.Funs = append(funs, api.Fun{Name: "room"})[:len(funs)]
		d.Mods = append(d.Mods, m)
	}
	d.Mods = append(d.Mods, api.Mod{Name: "room"})[:len(d.Mods)]
	return d
}

func roomyTerms(terms []api.Term) []api.Term {
	all := make([]api.Term, 0, len(terms)+1)
	for _, t := range terms {
		t.Nums = slices.Clone(t.Nums)
		if t.Args != nil {
			t.Args = roomyTerms(t.Args)
		}
		all = append(all, t)
	}
	return append(all, word("room"))[:len(terms)]
}

// untouched: is a program as roomy has made it, what lies behind its lists too?
func untouched(c, was api.Code) bool {
	if !same(c, was) || c.Mods[:len(c.Mods)+1][len(c.Mods)].Name != "room" || c.Consts[:len(c.Consts)+1][len(c.Consts)].Text != "room" {
		return false
	}
	for _, m := range c.Mods {
		if m.Exports[:len(m.Exports)+1][len(m.Exports)] != 77 || m.Funs[:len(m.Funs)+1][len(m.Funs)].Name != "room" {
			return false
		}
		for _, f := range m.Funs {
			if f.Code[:len(f.Code)+1][len(f.Code)].Op != 77 {
				return false
			}
		}
	}
	return true
}

// scribble writes over all memory that a program reaches by its lists, what lies unused behind them too.
func scribble(c api.Code) {
	sample.Scribble(api.Term{Args: c.Consts})
	for i := range c.Mods[:cap(c.Mods)] {
		m := &c.Mods[:cap(c.Mods)][i]
		for k := range m.Exports[:cap(m.Exports)] {
			m.Exports[:cap(m.Exports)][k] = -5
		}
		for k := range m.Funs[:cap(m.Funs)] {
			scribbleFun(&m.Funs[:cap(m.Funs)][k])
		}
		*m = api.Mod{Name: "scribbled"}
	}
}

func scribbleFun(f *api.Fun) {
	for k := range f.Code[:cap(f.Code)] {
		f.Code[:cap(f.Code)][k] = api.Insn{Op: -5}
	}
	*f = api.Fun{Name: "scribbled"}
}

// Rule 4: what is handed in is not changed; and changed afterwards, it changes no answer, neither one that was told nor a later one.
func TestGivenIsNotKept(t *testing.T) {
	was, text := everything()
	c := roomy(was)
	if err := code.Check(c); err != nil {
		t.Fatal(err)
	}
	h, err := code.Height(c, 0, 0)
	if h != 1 || err != nil {
		t.Errorf("Height = %d, %v", h, err)
	}
	s, err := code.Print(c)
	if s != text || err != nil {
		t.Errorf("Print = %q, %v", s, err)
	}
	if !untouched(c, was) {
		t.Errorf("the program was changed:\n%s", show(c))
	}
	scribble(c)
	if s != text {
		t.Errorf("the text was changed with the program: %q", s)
	}
	again, _ := everything()
	if s, err := code.Print(roomy(again)); s != text || err != nil {
		t.Errorf("Print, later: %q, %v", s, err)
	}
}

// Rule 4: programs that are refused are not changed, either.
func TestRefusedIsNotChanged(t *testing.T) {
	for _, c := range []api.Code{of("take; pop"), of("load 0; return"), of("30"), prog(fun("f", 0, 0, "jump 0"), fun("f", 0, 0, "jump 0"))} {
		d := roomy(c)
		for range 2 {
			if code.Check(d) == nil {
				t.Errorf("Check: nil, of\n%s", show(d))
			}
			if _, err := code.Height(d, 0, 0); err == nil {
				t.Error("Height: nil")
			}
			if _, err := code.Print(d); err == nil {
				t.Error("Print: nil")
			}
		}
		if !untouched(d, c) {
			t.Errorf("the program was changed:\n%s", show(d))
		}
	}
}

// Rule 4: answers that are changed change no later answer.
func TestAnswersAreNew(t *testing.T) {
	want, text := everything()
	first, err := code.Read(text)
	if err != nil {
		t.Fatal(err)
	}
	second, err := code.Read(text)
	if err != nil {
		t.Fatal(err)
	}
	scribble(first)
	if !same(second, want) {
		t.Errorf("one answer was changed with another:\n%s", show(second))
	}
	if third, err := code.Read(text); !same(third, want) || err != nil {
		t.Errorf("Read, later: %v\n%s", err, show(third))
	}
	l := code.Acts()
	l = l[:cap(l)]
	for i := range l {
		l[i] = api.Bif{Name: "scribbled", Arity: 7}
	}
	if !slices.Equal(signatures(code.Acts()), acts) {
		t.Errorf("Acts, later: %v", code.Acts())
	}
	if n, ok := code.Act("scribbled", 7); ok {
		t.Errorf("Act = %d", n)
	}
	if err := code.Check(want); err != nil {
		t.Errorf("Check, later: %v", err)
	}
}

// Rule 4: no two lists of one answer share memory, also where they are as one.
func TestAnswersShareNothing(t *testing.T) {
	text := "const {a,[1,2]}\nconst {a,[1,2]}\nmodule m\nexport 0 1\nfun f 0 0\n const 0\n return\nfun g 0 0\n const 0\n return\nmodule n\nexport 0 1\nfun f 0 0\n const 0\n return\nfun g 0 0\n const 0\n return\n"
	want, err := code.Read(text)
	if err != nil {
		t.Fatal(err)
	}
	for _, part := range []struct {
		name   string
		change func(c api.Code)
		back   func(c api.Code)
	}{
		{"a constant", func(c api.Code) { sample.Scribble(c.Consts[0]) }, func(c api.Code) { c.Consts[0] = want.Consts[0] }},
		{"a list of exports", func(c api.Code) { m := c.Mods[0]; scribble(api.Code{Mods: []api.Mod{{Exports: m.Exports}}}) }, func(c api.Code) { c.Mods[0].Exports = want.Mods[0].Exports }},
		{"a module", func(c api.Code) { m := c.Mods[0]; scribble(api.Code{Mods: []api.Mod{m}}) }, func(c api.Code) { c.Mods[0] = want.Mods[0] }},
		{"a function", func(c api.Code) { scribbleFun(&c.Mods[1].Funs[0]) }, func(c api.Code) { c.Mods[1].Funs[0] = want.Mods[1].Funs[0] }},
	} {
		c, err := code.Read(text)
		if err != nil {
			t.Fatal(err)
		}
		part.change(c)
		part.back(c)
		if !same(c, want) {
			t.Errorf("more was changed than %s:\n%s", part.name, show(c))
		}
	}
}

// Rule 4: nil and empty lists are the same.
func TestNilAndEmpty(t *testing.T) {
	c := api.Code{Consts: []api.Term{{Kind: api.KTuple, Args: []api.Term{}, Nums: []uint32{}}}, Mods: []api.Mod{{Name: "m", Exports: []int{}, Funs: []api.Fun{}}}}
	prints(t, c, "const {}\nmodule m\n")
	prints(t, api.Code{Consts: []api.Term{}, Mods: []api.Mod{}}, "")
}
