package code_test

import (
	"slices"
	"testing"

	"heddle/api"
	"heddle/code"
	"heddle/sample"
)

// Rule 4: what is handed in is not changed; and changed afterwards, it changes no answer, neither one that was told nor a later one.
func TestGivenIsNotKept(t *testing.T) {
	was, text := everything()
	c := sample.RoomyCode(was)
	if err := code.Check(c); err != nil {
		t.Fatal(err)
	}
	h, err := code.Height(c, 0, 0)
	if h != 1 || err != nil {
		t.Errorf("Height = %d, %v", h, err)
	}
	s, err := code.Print(c)
	if s != text || err != nil {
		t.Errorf("Print = %q, %v", s, err)
	}
	if !sample.UntouchedCode(c, was) {
		t.Errorf("the program was changed:\n%s", show(c))
	}
	sample.ScribbleCode(c)
	if s != text {
		t.Errorf("the text was changed with the program: %q", s)
	}
	again, _ := everything()
	if s, err := code.Print(sample.RoomyCode(again)); s != text || err != nil {
		t.Errorf("Print, later: %q, %v", s, err)
	}
}

// Rule 4: programs that are refused are not changed, either.
func TestRefusedIsNotChanged(t *testing.T) {
	for _, c := range []api.Code{of("take; pop"), of("load 0; return"), of("30"), prog(fun("f", 0, 0, "jump 0"), fun("f", 0, 0, "jump 0"))} {
		d := sample.RoomyCode(c)
		for range 2 {
			if code.Check(d) == nil {
				t.Errorf("Check: nil, of\n%s", show(d))
			}
			if _, err := code.Height(d, 0, 0); err == nil {
				t.Error("Height: nil")
			}
			if _, err := code.Print(d); err == nil {
				t.Error("Print: nil")
			}
		}
		if !sample.UntouchedCode(d, c) {
			t.Errorf("the program was changed:\n%s", show(d))
		}
	}
}

// Rule 4: answers that are changed change no later answer.
func TestAnswersAreNew(t *testing.T) {
	want, text := everything()
	first, err := code.Read(text)
	if err != nil {
		t.Fatal(err)
	}
	second, err := code.Read(text)
	if err != nil {
		t.Fatal(err)
	}
	sample.ScribbleCode(first)
	if !sample.SameCode(second, want) {
		t.Errorf("one answer was changed with another:\n%s", show(second))
	}
	if third, err := code.Read(text); !sample.SameCode(third, want) || err != nil {
		t.Errorf("Read, later: %v\n%s", err, show(third))
	}
	l := code.Acts()
	l = l[:cap(l)]
	for i := range l {
		l[i] = api.Bif{Name: "scribbled", Arity: 7}
	}
	if !slices.Equal(signatures(code.Acts()), acts) {
		t.Errorf("Acts, later: %v", code.Acts())
	}
	if n, ok := code.Act("scribbled", 7); ok {
		t.Errorf("Act = %d", n)
	}
	if err := code.Check(want); err != nil {
		t.Errorf("Check, later: %v", err)
	}
}

// Rule 4: no two lists of one answer share memory, also where they are as one.
func TestAnswersShareNothing(t *testing.T) {
	text := "const {a,[1,2]}\nconst {a,[1,2]}\nmodule m\nexport 0 1\nfun f 0 0\n const 0\n return\nfun g 0 0\n const 0\n return\nmodule n\nexport 0 1\nfun f 0 0\n const 0\n return\nfun g 0 0\n const 0\n return\n"
	want, err := code.Read(text)
	if err != nil {
		t.Fatal(err)
	}
	for _, part := range []struct {
		name   string
		change func(c api.Code)
		back   func(c api.Code)
	}{
		{"a constant", func(c api.Code) { sample.Scribble(c.Consts[0]) }, func(c api.Code) { c.Consts[0] = want.Consts[0] }},
		{"a list of exports", func(c api.Code) { m := c.Mods[0]; sample.ScribbleCode(api.Code{Mods: []api.Mod{{Exports: m.Exports}}}) }, func(c api.Code) { c.Mods[0].Exports = want.Mods[0].Exports }},
		{"a module", func(c api.Code) { m := c.Mods[0]; sample.ScribbleCode(api.Code{Mods: []api.Mod{m}}) }, func(c api.Code) { c.Mods[0] = want.Mods[0] }},
		{"a function", func(c api.Code) { sample.ScribbleFun(&c.Mods[1].Funs[0]) }, func(c api.Code) { c.Mods[1].Funs[0] = want.Mods[1].Funs[0] }},
	} {
		c, err := code.Read(text)
		if err != nil {
			t.Fatal(err)
		}
		part.change(c)
		part.back(c)
		if !sample.SameCode(c, want) {
			t.Errorf("more was changed than %s:\n%s", part.name, show(c))
		}
	}
}

// Rule 4: nil and empty lists are the same.
func TestNilAndEmpty(t *testing.T) {
	c := api.Code{Consts: []api.Term{{Kind: api.KTuple, Args: []api.Term{}, Nums: []uint32{}}}, Mods: []api.Mod{{Name: "m", Exports: []int{}, Funs: []api.Fun{}}}}
	prints(t, c, "const {}\nmodule m\n")
	prints(t, api.Code{Consts: []api.Term{}, Mods: []api.Mod{}}, "")
}
