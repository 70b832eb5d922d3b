package code_test

import (
	"math"
	"slices"
	"strconv"
	"strings"
	"testing"

	"heddle/api"
	"heddle/bif"
	"heddle/sample"
)

// numbered is so many modules, m0 and so on, without functions.
func numbered(n int) []api.Mod {
	var mods []api.Mod
	for i := range n {
		mods = append(mods, api.Mod{Name: "m" + strconv.Itoa(i)})
	}
	return mods
}

// several is so many functions of two instructions, f0 and so on.
func several(n int) []api.Fun {
	var funs []api.Fun
	for i := range n {
		funs = append(funs, fun("f"+strconv.Itoa(i), 0, 0, "const 0; return"))
	}
	return funs
}

// P15.2, 1: how many modules and constants there may be; ahead of constants that are no terms.
func TestCheckMany(t *testing.T) {
	well(t, api.Code{})
	well(t, api.Code{Consts: []api.Term{}, Mods: []api.Mod{}})
	well(t, api.Code{Mods: numbered(api.MaxMods)})
	refuses(t, api.Code{Mods: numbered(api.MaxMods + 1)}, api.ErrMany, 0)
	refuses(t, api.Code{Consts: make([]api.Term, 1), Mods: numbered(api.MaxMods + 1)}, api.ErrMany, 0)
	refuses(t, api.Code{Mods: make([]api.Mod, api.MaxMods+1)}, api.ErrMany, 0)
	well(t, api.Code{Consts: sample.Ones(api.MaxConsts)})
	refuses(t, api.Code{Consts: sample.Ones(api.MaxConsts + 1)}, api.ErrMany, 0)
	refuses(t, api.Code{Consts: make([]api.Term, api.MaxConsts+1), Mods: make([]api.Mod, 1)}, api.ErrMany, 0)
	refuses(t, api.Code{Consts: make([]api.Term, api.MaxConsts), Mods: numbered(1)}, api.ErrTerm, 0, api.Fault{Layer: "term", Code: api.ErrTerm})
}

// P15.2, 1: the first constant that is no term, with term's fault under; ahead of all that modules have.
func TestCheckConstants(t *testing.T) {
	for _, x := range append(sample.NoTerms(), sample.NoTerm{Value: sample.Itself(), Chain: []api.Fault{{Layer: "term", At: api.MaxDepth, Code: api.ErrDeep}}}) {
		for place := range 4 {
			c := api.Code{Consts: slices.Insert(sample.Ones(3), place, x.Value), Mods: []api.Mod{{Name: "\xff"}}}
			refuses(t, c, x.Chain[0].Code, place, x.Chain...)
			c.Consts = append(c.Consts, api.Term{}, word("\xff"))
			refuses(t, c, x.Chain[0].Code, place, x.Chain...)
		}
	}
	c := api.Code{Consts: append(sample.Ones(api.MaxConsts-1), api.Term{})}
	refuses(t, c, api.ErrTerm, api.MaxConsts-1, api.Fault{Layer: "term", Code: api.ErrTerm})
	well(t, api.Code{Consts: append(consts(), tuple(sample.Ones(api.MaxSize-1)...), sample.Chain(api.MaxDepth-1, num(1)), num(api.MinInt), num(api.MaxInt), word(""), ref("n@h", 1, 1, 2, 3))})
}

// at is a program whose second module is this one; its instructions are numbered from 5 on.
func at(m api.Mod) api.Code {
	first := api.Mod{Name: "first", Funs: []api.Fun{fun("a", 0, 0, "const 0; return"), fun("b", 0, 0, "const 0; pop; jump 0")}}
	return api.Code{Consts: consts(), Mods: []api.Mod{first, m, {Name: "\xff"}}}
}

// P15.2, 2: modules' names.
func TestCheckModules(t *testing.T) {
	for _, name := range []string{"", "m", "A b", "end", "é", strings.Repeat("x", api.MaxAtom), "\x00", "'"} {
		well(t, api.Code{Mods: []api.Mod{{Name: name}}})
	}
	for _, name := range []string{"\xff", "a\xed\xa0\x80", strings.Repeat("x", api.MaxAtom+1)} {
		refuses(t, api.Code{Mods: []api.Mod{{Name: name}}}, api.ErrCode, 0)
		refuses(t, api.Code{Mods: []api.Mod{{Name: name}, {Name: name}}}, api.ErrCode, 0)
		refuses(t, at(api.Mod{Name: name, Exports: []int{-1}, Funs: make([]api.Fun, api.MaxFuns+1)}), api.ErrCode, 5)
	}
	refuses(t, api.Code{Mods: []api.Mod{{Name: "m"}, {Name: "m"}}}, api.ErrTwice, 0)
	refuses(t, api.Code{Mods: []api.Mod{{Name: "m"}, {Name: "n"}, {Name: "m"}}}, api.ErrTwice, 0)
	refuses(t, at(api.Mod{Name: "first", Exports: []int{-1}, Funs: make([]api.Fun, api.MaxFuns+1)}), api.ErrTwice, 5)
	well(t, api.Code{Mods: []api.Mod{{Name: "m"}, {Name: "M"}, {Name: ""}, {Name: "mm"}}})
	last := api.Code{Mods: append(numbered(api.MaxMods-1), api.Mod{Name: "m0"})}
	refuses(t, last, api.ErrTwice, 0)
}

// P15.2, 2: how many functions a module may have.
func TestCheckManyFunctions(t *testing.T) {
	well(t, prog(several(api.MaxFuns)...))
	refuses(t, prog(several(api.MaxFuns+1)...), api.ErrMany, 0)
	refuses(t, prog(make([]api.Fun, api.MaxFuns+1)...), api.ErrMany, 0)
	refuses(t, at(api.Mod{Name: "m", Exports: []int{5, 4}, Funs: make([]api.Fun, api.MaxFuns+1)}), api.ErrMany, 5)
	two := api.Code{Consts: consts(), Mods: []api.Mod{{Name: "m", Funs: several(api.MaxFuns)}, {Name: "n", Funs: several(api.MaxFuns)}}}
	well(t, two)
	two.Mods[1].Funs = several(api.MaxFuns + 1)
	refuses(t, two, api.ErrMany, 2*api.MaxFuns)
}

// P15.2, 2: exports rise, and are functions' numbers.
func TestCheckExports(t *testing.T) {
	for _, exports := range [][]int{nil, {}, {0}, {1}, {2}, {0, 1}, {0, 2}, {1, 2}, {0, 1, 2}} {
		c := prog(several(3)...)
		c.Mods[0].Exports = exports
		well(t, c)
	}
	for _, exports := range [][]int{{-1}, {3}, {0, 0}, {1, 0}, {0, 1, 1}, {0, 2, 1}, {2, 2}, {0, 1, 2, 3}, {-1, 0}, {0, -1}, {math.MinInt}, {math.MaxInt}, {1 << 32}, {0, 1, 2, 2}} {
		c := prog(several(3)...)
		c.Mods[0].Exports = exports
		refuses(t, c, api.ErrCode, 0)
		refuses(t, at(api.Mod{Name: "m", Exports: exports, Funs: make([]api.Fun, 3)}), api.ErrCode, 5)
	}
	refuses(t, api.Code{Mods: []api.Mod{{Name: "m", Exports: []int{0}}}}, api.ErrCode, 0)
	all := prog(several(api.MaxFuns)...)
	for i := range api.MaxFuns {
		all.Mods[0].Exports = append(all.Mods[0].Exports, i)
	}
	well(t, all)
	all.Mods[0].Exports = []int{api.MaxFuns}
	refuses(t, all, api.ErrCode, 0)
}

// inSecond is a program whose second module's second function is this one; its instructions are numbered from 7 on.
func inSecond(f api.Fun) api.Code {
	return at(api.Mod{Name: "m", Exports: []int{1}, Funs: []api.Fun{fun("f", 1, 1, "const 0; return"), f, {Name: "\xff"}}})
}

// P15.2, 2: functions' names, and how many arguments and locals they have.
func TestCheckFunctions(t *testing.T) {
	for _, f := range []api.Fun{
		{Name: "\xff"}, {Name: strings.Repeat("x", api.MaxAtom+1)}, {Name: "g", Arity: -1, Locals: 0}, {Name: "g", Arity: -1, Locals: -1}, {Name: "g", Arity: math.MinInt, Locals: math.MinInt}, {Name: "g", Arity: api.MaxArgs + 1, Locals: api.MaxArgs + 1},
		{Name: "g", Arity: math.MaxInt, Locals: math.MaxInt}, {Name: "g", Arity: 1, Locals: 0}, {Name: "g", Arity: 0, Locals: -1}, {Name: "g", Arity: 5, Locals: 4}, {Name: "g", Arity: 0, Locals: api.MaxLocals + 1}, {Name: "g", Arity: 255, Locals: 254}, {Name: "g", Arity: 0, Locals: math.MaxInt}, {Name: "f", Arity: 1, Locals: 0},
	} {
		refuses(t, inSecond(f), api.ErrCode, 7)
		f.Code = slices.Repeat(insns("99"), api.MaxInsns+1)
		refuses(t, inSecond(f), api.ErrCode, 7)
	}
	for _, f := range []api.Fun{
		{Name: ""}, {Name: strings.Repeat("x", api.MaxAtom)}, {Name: "f"}, {Name: "f", Arity: 2, Locals: 2}, {Name: "g", Arity: api.MaxArgs, Locals: api.MaxArgs}, {Name: "g", Arity: api.MaxArgs, Locals: api.MaxLocals}, {Name: "g", Locals: api.MaxLocals}, {Name: "g", Locals: 1}, {Name: "end"},
	} {
		f.Code = insns("const 0; return")
		c := inSecond(f)
		c.Mods[1].Funs = c.Mods[1].Funs[:2]
		c.Mods = c.Mods[:2]
		well(t, c)
	}
}

// P15.2, 2: no two functions of a module have name and number of arguments; those of two modules may.
func TestCheckTwice(t *testing.T) {
	refuses(t, inSecond(api.Fun{Name: "f", Arity: 1, Locals: 1}), api.ErrTwice, 7)
	refuses(t, inSecond(api.Fun{Name: "f", Arity: 1, Locals: 9, Code: make([]api.Insn, api.MaxInsns+1)}), api.ErrTwice, 7)
	refuses(t, prog(fun("f", 0, 0, "const 0; return"), fun("g", 0, 0, "const 0; return"), fun("f", 0, 0, "99")), api.ErrTwice, 4)
	refuses(t, prog(fun("f", 0, 0, "99"), fun("f", 0, 0, "99")), api.ErrCode, 0)
	l := several(api.MaxFuns)
	l[api.MaxFuns-1].Name = "f0"
	refuses(t, prog(l...), api.ErrTwice, 2*(api.MaxFuns-1))
	well(t, prog(fun("f", 0, 0, "const 0; return"), fun("f", 1, 1, "const 0; return"), fun("F", 1, 1, "const 0; return")))
	well(t, api.Code{Consts: consts(), Mods: []api.Mod{{Name: "m", Funs: several(3)}, {Name: "n", Funs: several(3)}, {Name: "f0", Funs: several(1)}}})
}

// P15.2, 2: how many instructions a function may have: one at least.
func TestCheckManyInstructions(t *testing.T) {
	refuses(t, inSecond(api.Fun{Name: "g"}), api.ErrFlow, 7)
	refuses(t, prog(api.Fun{Name: "f", Code: []api.Insn{}}), api.ErrFlow, 0)
	refuses(t, prog(api.Fun{Name: "f"}, fun("g", 0, 0, "99")), api.ErrFlow, 0)
	most := strconv.Itoa(api.MaxInsns-2) + "*take;const 0;return"
	well(t, of(most))
	well(t, prog(fun("f", 0, 0, most), fun("g", 0, 0, most)))
	refuses(t, of("take;"+most), api.ErrMany, 0)
	refuses(t, inSecond(fun("g", 0, 0, "99;"+most)), api.ErrMany, 7)
	refuses(t, prog(fun("f", 0, 0, most), fun("g", 0, 0, "take;"+most)), api.ErrMany, api.MaxInsns)
	refuses(t, prog(fun("f", 0, 0, most), fun("g", 0, 0, "const 0; 30")), api.ErrCode, api.MaxInsns+1)
}

// bounds are each Op's A and B as api tells them: how many numbers, from 0 on, each may be, in a function of 10 instructions with 3 locals, of 2 in its module, with 14 constants; CList's A is 1 at least, and of CRemote's and CLeave's (from 0 on) only the constant 1 is a pair of atoms.
var bounds = [][2]int{
	{14, 1}, {3, 1}, {3, 1}, {1, 1}, {1, 1}, {4097, 1}, {4097, 1}, {44, 1}, {2, 1}, {2, 1}, {2, 256}, {2, 256}, {1, 1}, {10, 1}, {10, 2}, {14, 10}, {4097, 10}, {10, 1}, {10, 1},
	{3, 1}, {10, 1}, {10, 1}, {1, 1}, {1, 1}, {17, 1}, {10, 1}, {10, 1}, {1, 1}, {10, 1},
}

// unreached is a program whose second function, of 10 instructions, does not reach this one, at the number 2 + 9: only its form may be wrong.
func unreached(in api.Insn) api.Code {
	f := fun("f", 1, 3, "const 0; return; 8*pop")
	f.Code[9] = in
	return prog(fun("g", 0, 0, "const 0; return"), f)
}

// P15.2, 2: each bound of A and B, of each Op; what is not named is 0.
func TestCheckOperands(t *testing.T) {
	if len(bif.All()) != 44 || len(bounds) != len(names) || len(consts()) != 14 {
		t.Fatal("other numbers")
	}
	for i, bound := range bounds {
		op := api.Op(i + 1)
		lowA := 0
		if op == api.CList || op == api.CRemote || op == api.CLeave {
			lowA = 1
		}
		for _, a := range []int{lowA, bound[0] - 1} {
			for _, b := range []int{0, bound[1] - 1} {
				well(t, unreached(api.Insn{Op: op, A: a, B: b}))
			}
		}
		for _, wrong := range []int{bound[0], bound[0] + 1, -1, lowA - 1, math.MinInt, math.MaxInt, 1 << 32, -1 << 32} {
			refuses(t, unreached(api.Insn{Op: op, A: wrong}), api.ErrCode, 11)
		}
		for _, wrong := range []int{bound[1], bound[1] + 1, -1, math.MinInt, math.MaxInt, 1 << 32, -1 << 32} {
			refuses(t, unreached(api.Insn{Op: op, A: lowA, B: wrong}), api.ErrCode, 11)
		}
	}
}

// P15.2, 2: Ops that are none.
func TestCheckOps(t *testing.T) {
	for _, op := range []api.Op{0, -1, 30, 31, 99, math.MinInt, math.MaxInt, 1<<32 + 1, 1<<32 + 13, -29} {
		refuses(t, unreached(api.Insn{Op: op}), api.ErrCode, 11)
		refuses(t, unreached(api.Insn{Op: op, A: -1, B: -1}), api.ErrCode, 11)
	}
	for op := api.Op(1); op <= 29; op++ {
		a := 0
		if op == api.CList || op == api.CRemote || op == api.CLeave {
			a = 1
		}
		well(t, unreached(api.Insn{Op: op, A: a}))
	}
}

// P15.2, 2: the constant of CRemote and CLeave is a tuple of two atoms.
func TestCheckCallees(t *testing.T) {
	for i := range consts() {
		for _, op := range []api.Op{api.CRemote, api.CLeave} {
			for _, arity := range []int{0, 255} {
				c := unreached(api.Insn{Op: op, A: i, B: arity})
				if i == 1 || i == 12 {
					well(t, c)
				} else {
					refuses(t, c, api.ErrCode, 11)
				}
			}
		}
	}
	ahead := unreached(api.Insn{Op: api.CRemote, A: 14})
	refuses(t, ahead, api.ErrCode, 11)
	ahead.Consts = append(ahead.Consts, tuple(word("x"), word("y")))
	well(t, ahead)
}

// P15.2, 2: functions' numbers are those of the own module, locals and instructions those of the own function.
func TestCheckOwn(t *testing.T) {
	two := func(a, b string) api.Code {
		return api.Code{Consts: consts(), Mods: []api.Mod{
			{Name: "m", Funs: []api.Fun{fun("f", 0, 1, a)}},
			{Name: "n", Funs: []api.Fun{fun("f", 0, 0, "const 0; return"), fun("g", 0, 3, b), fun("h", 0, 3, "const 0; return; 10*pop")}},
		}}
	}
	ends := "const 0; return;"
	well(t, two(ends+"call 0", ends+"call 2"))
	refuses(t, two(ends+"call 1", ends+"call 3"), api.ErrCode, 2)
	refuses(t, two(ends+"call 0", ends+"call 3"), api.ErrCode, 7)
	well(t, two(ends+"load 0; store 0", ends+"load 2; store 2"))
	refuses(t, two(ends+"pop; store 1", ends+"load 3"), api.ErrCode, 3)
	refuses(t, two(ends+"pop; load 0", ends+"pop; pop; load 3"), api.ErrCode, 10)
	well(t, two(ends+"jump 2", ends+"pop; jump 3"))
	refuses(t, two(ends+"jump 3", ends+"jump 9"), api.ErrCode, 2)
	refuses(t, two(ends+"jump 2", ends+"pop; jump 4"), api.ErrCode, 8)
}

// P15.2, 2: of several faults the first one, function by function: all of an earlier one ahead of a later one.
func TestCheckInOrder(t *testing.T) {
	wrong := "const 0; return; 30; jump 99"
	c := api.Code{Consts: consts(), Mods: []api.Mod{
		{Name: "m", Funs: []api.Fun{fun("f", 0, 0, "const 0; return"), fun("g", 0, 0, wrong), {Name: "\xff"}}},
		{Name: "m", Funs: []api.Fun{fun("f", 0, 0, wrong)}},
	}}
	refuses(t, c, api.ErrCode, 4)
	c.Mods[0].Funs[1] = fun("g", 0, 0, "const 0; return; pop; jump 99")
	refuses(t, c, api.ErrCode, 5)
	c.Mods[0].Funs[1] = fun("g", 0, 0, "const 0; return; pop; jump 3")
	refuses(t, c, api.ErrCode, 6)
	c.Mods[0].Funs[2] = api.Fun{Name: "f"}
	refuses(t, c, api.ErrTwice, 6)
	c.Mods[0].Funs[2] = api.Fun{Name: "h"}
	refuses(t, c, api.ErrFlow, 6)
	c.Mods[0].Funs[2] = fun("h", 0, 0, "pop")
	refuses(t, c, api.ErrTwice, 7)
	c.Mods[1].Name = "n"
	refuses(t, c, api.ErrCode, 9)
	c.Mods[1].Funs[0].Code = insns("const 0; return")
	refuses(t, c, api.ErrFlow, 6)
	c.Mods[0].Funs[2].Code = insns("const 0; return")
	well(t, c)
}

// P15.2, 2: forms of all functions come ahead of the ways of each; also where nobody goes.
func TestCheckFormsFirst(t *testing.T) {
	for _, c := range []struct {
		wrong string
		at    int
	}{{"const 14", 0}, {"load 1", 0}, {"30", 0}, {"const 0; return; jump 3", 2}, {"jump 0; done 1", 1}} {
		refuses(t, prog(fun("f", 0, 1, "load 0; pop; pop"), fun("g", 0, 1, c.wrong)), api.ErrCode, 3+c.at)
	}
	for _, text := range []string{"pop", "load 0; return"} {
		refuses(t, api.Code{Consts: consts(), Mods: []api.Mod{{Name: "m", Funs: []api.Fun{fun("f", 0, 1, text)}}, {Name: "m"}}}, api.ErrTwice, len(insns(text)))
	}
}
