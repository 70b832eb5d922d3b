package code_test

import (
	"slices"
	"strconv"
	"strings"
	"testing"

	"heddle/api"
	"heddle/code"
	"heddle/sample"
)

// prints: a program's text is this one, and the text's program is it again.
func prints(t *testing.T, c api.Code, want string) {
	t.Helper()
	if s, err := code.Print(c); s != want || err != nil {
		t.Errorf("Print = %.2000q, %v; want %.2000q", s, err, want)
	}
	if d, err := code.Read(want); !sample.SameCode(d, c) || err != nil {
		t.Errorf("Read(%.2000q) = %v; it is\n%s", want, err, show(d))
	}
}

// written is an instruction and its line.
type written struct {
	in   api.Insn
	line string
}

// each is every instruction with its line, in a function of 40 instructions and 5 locals, one of 9.
func each() []written {
	return []written{
		{api.Insn{Op: api.CConst, A: 13}, " const 13\n"}, {api.Insn{Op: api.CLoad, A: 4}, " load 4\n"}, {api.Insn{Op: api.CStore, A: 3}, " store 3\n"}, {api.Insn{Op: api.CPop}, " pop\n"}, {api.Insn{Op: api.CDup}, " dup\n"},
		{api.Insn{Op: api.CTuple, A: 4096}, " tuple 4096\n"}, {api.Insn{Op: api.CTuple}, " tuple 0\n"}, {api.Insn{Op: api.CList, A: 1}, " list 1\n"}, {api.Insn{Op: api.CBif, A: 43}, " bif 43\n"},
		{api.Insn{Op: api.CCall, A: 8}, " call 8\n"}, {api.Insn{Op: api.CTail, A: 7}, " tail 7\n"}, {api.Insn{Op: api.CRemote, A: 12, B: 255}, " remote 12 255\n"}, {api.Insn{Op: api.CRemote, A: 1}, " remote 1 0\n"}, {api.Insn{Op: api.CLeave, A: 1, B: 2}, " leave 1 2\n"}, {api.Insn{Op: api.CReturn}, " return\n"},
		{api.Insn{Op: api.CJump, A: 39}, " jump 39\n"}, {api.Insn{Op: api.CBranch, A: 5}, " branch 5 0\n"}, {api.Insn{Op: api.CBranch, A: 6, B: 1}, " branch 6 1\n"}, {api.Insn{Op: api.CIs, A: 2, B: 38}, " is 2 38\n"}, {api.Insn{Op: api.CIs}, " is 0 0\n"}, {api.Insn{Op: api.CParts, A: 3, B: 37}, " parts 3 37\n"}, {api.Insn{Op: api.CParts, B: 1}, " parts 0 1\n"},
		{api.Insn{Op: api.CCons, A: 36}, " cons 36\n"}, {api.Insn{Op: api.CSame, A: 35}, " same 35\n"}, {api.Insn{Op: api.CRaise}, " raise 0\n"}, {api.Insn{Op: api.CRaise, A: 1}, " raise 1\n"}, {api.Insn{Op: api.CRaise, A: 2}, " raise 2\n"},
		{api.Insn{Op: api.CTry, A: 34}, " try 34\n"}, {api.Insn{Op: api.CGuard, A: 33}, " guard 33\n"}, {api.Insn{Op: api.CDone}, " done\n"}, {api.Insn{Op: api.CSend}, " send\n"}, {api.Insn{Op: api.CAct, A: 16}, " act 16\n"}, {api.Insn{Op: api.CPeek, A: 32}, " peek 32\n"}, {api.Insn{Op: api.CNext, A: 31}, " next 31\n"}, {api.Insn{Op: api.CTake}, " take\n"}, {api.Insn{Op: api.CWait, A: 30}, " wait 30\n"},
	}
}

// everything is a program with every instruction, names that are quoted, no exports, one and more; and its text.
func everything() (api.Code, string) {
	c := prog(fun("f", 2, 5, "load 0; return; take; take"))
	text := "const 7\nconst {m,f}\nconst a\nconst {a,1}\nconst {1,a}\nconst {a}\nconst {a,b,c}\nconst [a|b]\nconst [a,b]\nconst {}\nconst []\nconst <n@h.1.5.0>\nconst {'A b',''}\nconst {{a,b},c}\n" +
		"module m\nexport 0 2 8\nfun f 2 5\n load 0\n return\n take\n take\n"
	m := &c.Mods[0]
	m.Exports = []int{0, 2, 8}
	for _, e := range each() {
		m.Funs[0].Code = append(m.Funs[0].Code, e.in)
		text += e.line
	}
	for i, name := range []string{"g", "A b", "", "end", "it's\n\t\\", "é€", "a@B_1", "f"} {
		quoted := []string{"g", "'A b'", "''", "'end'", `'it\'s\n\t\\'`, "'é€'", "a@B_1", "f"}[i]
		m.Funs = append(m.Funs, fun(name, i, i+i, "const 0; return"))
		text += "fun " + quoted + " " + strconv.Itoa(i) + " " + strconv.Itoa(i+i) + "\n const 0\n return\n"
	}
	c.Mods = append(c.Mods, api.Mod{Name: "\x01 '"}, api.Mod{Name: "f"}, api.Mod{Name: "", Exports: []int{0}, Funs: []api.Fun{fun("f", 255, 1024, "jump 0"), fun("fun", 0, 0, "tail 0")}})
	c.Mods[3].Funs[1].Code = insns("255*const 0; tail 0")
	return c, text + "module '\\x01 \\''\nmodule f\nmodule ''\nexport 0\nfun f 255 1024\n jump 0\nfun 'fun' 0 0\n" + strings.Repeat(" const 0\n", 255) + " tail 0\n"
}

// P15.4, P15.5: each instruction, names that are quoted, no exports, one and more.
func TestPrint(t *testing.T) {
	c, text := everything()
	if n := len(c.Mods[0].Funs[0].Code); n != 40 || len(c.Mods[0].Funs) != 9 {
		t.Fatal(n, len(c.Mods[0].Funs))
	}
	for i, name := range names {
		if !slices.ContainsFunc(each(), func(w written) bool { return w.in.Op == api.Op(i+1) && strings.Fields(w.line)[0] == name }) {
			t.Errorf("no line of %s", name)
		}
	}
	prints(t, c, text)
}

// P15.4, P15.5: small programs.
func TestPrintSmall(t *testing.T) {
	prints(t, api.Code{}, "")
	prints(t, api.Code{Mods: []api.Mod{{Name: "m"}}}, "module m\n")
	prints(t, api.Code{Consts: []api.Term{null()}}, "const []\n")
	prints(t, api.Code{Consts: []api.Term{num(1), num(1), num(api.MinInt), num(api.MaxInt)}}, "const 1\nconst 1\nconst -576460752303423488\nconst 576460752303423487\n")
	prints(t, api.Code{Consts: []api.Term{word("A\nb"), ref("A@h", 1, 2, 3, 1<<32-1), tuple(list(num(1), tuple()))}, Mods: []api.Mod{{Name: "x y"}}}, "const 'A\\nb'\nconst #Ref<'A@h'.1.2.3.4294967295>\nconst {[1|{}]}\nmodule 'x y'\n")
	prints(t, api.Code{Mods: []api.Mod{{Name: "m", Funs: []api.Fun{fun("f", 1, 1, "load 0; return")}}}}, "module m\nfun f 1 1\n load 0\n return\n")
	prints(t, api.Code{Mods: []api.Mod{{Name: "b"}, {Name: "a"}}}, "module b\nmodule a\n")
}

// wide is a program whose text has so many bytes, 262 at least.
func wide(size int) api.Code {
	var c api.Code
	for left := size; left > 0; {
		line := min(left, 262) // const and an atom of 255 bytes
		if rest := left - line; rest > 0 && rest < 8 {
			line -= 8 // so that there is room for one more
		}
		c.Consts = append(c.Consts, word(strings.Repeat("a", line-7)))
		left -= line
	}
	return c
}

// P15.4, P15.5: texts of 4194304 bytes, and of one more.
func TestLong(t *testing.T) {
	for _, size := range []int{262, 263, 270, api.MaxImage - 1, api.MaxImage} {
		s, err := code.Print(wide(size))
		if len(s) != size || err != nil {
			t.Errorf("Print of %d bytes: %d, %v", size, len(s), err)
		}
		if c, err := code.Read(s); !sample.SameCode(c, wide(size)) || err != nil {
			t.Errorf("Read of %d bytes: %v", size, err)
		}
	}
	for _, size := range []int{api.MaxImage + 1, api.MaxImage + 2, api.MaxImage + 100, 2 * api.MaxImage} {
		if s, err := code.Print(wide(size)); s != "" || !sample.IsFault(err, fault(0, api.ErrLong)) {
			t.Errorf("Print of %d bytes: %d, %v", size, len(s), err)
		}
		for _, text := range []string{strings.Repeat("module m\n", size/9+1)[:size], strings.Repeat("\n", size), strings.Repeat("x", size)} {
			if c, err := code.Read(text); !sample.SameCode(c, api.Code{}) || !sample.IsFault(err, fault(0, api.ErrLong)) {
				t.Errorf("Read of %d bytes: %v", size, err)
			}
		}
	}
	s, err := code.Print(wide(api.MaxImage))
	if err != nil {
		t.Fatal(err)
	}
	if c, err := code.Read(s + "\n"); !sample.SameCode(c, api.Code{}) || !sample.IsFault(err, fault(0, api.ErrLong)) {
		t.Errorf("Read of one byte more: %v", err)
	}
	if c, err := code.Read(s[1:] + "\n"); !sample.SameCode(c, api.Code{}) || !sample.IsFault(err, fault(0, api.ErrLine)) {
		t.Errorf("Read of as many bytes, the first line wrong: %v", err)
	}
}

// P15.4: each kind of line may be the one with which a text is too long; Check's fault comes first.
func TestLongLines(t *testing.T) {
	tail := api.Mod{Name: "m", Exports: []int{0}, Funs: []api.Fun{fun("f", 1, 1, "load 0; return")}}
	whole := len("module m\nexport 0\nfun f 1 1\n load 0\n return\n")
	for _, more := range []int{0, 1, 8, 9, 17, 27, 36, whole, whole + 1} {
		c := wide(api.MaxImage - whole + more)
		c.Mods = []api.Mod{tail}
		s, err := code.Print(c)
		if more == 0 && (len(s) != api.MaxImage || err != nil) || more > 0 && (s != "" || !sample.IsFault(err, fault(0, api.ErrLong))) {
			t.Errorf("Print of %d bytes more: %d, %v", more, len(s), err)
		}
	}
	c := wide(api.MaxImage + 1)
	c.Mods = []api.Mod{{Name: "\xff"}}
	refuses(t, c, api.ErrCode, 0)
	great := tuple(slices.Repeat([]api.Term{word(strings.Repeat("\x01", api.MaxAtom))}, api.MaxSize-1)...)
	if s, err := code.Print(api.Code{Consts: slices.Repeat([]api.Term{great}, 100)}); s != "" || !sample.IsFault(err, fault(0, api.ErrLong)) {
		t.Errorf("Print of great constants: %d, %v", len(s), err)
	}
}
