package code_test

import (
	"fmt"
	"testing"

	"heddle/api"
)

// P15.2, 4: locals that are set on all ways, on some, on none.
func TestLocals(t *testing.T) {
	for _, text := range []string{
		"const 0; store 0; load 0; return",
		"const 0; dup; store 0; store 1; load 0; load 1; pop; return",
		"const 0; branch 5 0; const 0; store 0; jump 7; const 0; store 0; load 0; return",          // on both ways
		"const 0; store 0; const 0; branch 6 0; const 0; store 0; load 0; return",                  // once more on one
		"const 0; branch 5 0; const 0; store 0; jump 8; const 0; raise 0; pop; load 0; return",     // the other one ends
		"const 0; branch 6 0; const 0; store 0; load 0; return; const 0; store 1; load 1; return",  // each its own
		"const 0; return; load 0; return",                                                          // nobody goes there
		"const 0; branch 5 0; const 0; store 0; jump 5; const 0; store 0; load 0; pop; jump 5",     // and again
		"jump 3; load 0; return; const 0; store 0; jump 1",                                         // by a jump back
		"const 0; is 0 5; const 0; store 0; jump 7; const 0; store 0; load 0; return",              //
		"const 0; parts 1 4; store 0; jump 6; const 0; store 0; load 0; return",                    //
		"peek 3; store 0; jump 5; const 0; store 0; load 0; return; take",                          //
		"const 0; cons 5; store 0; store 1; jump 8; const 0; store 0; jump 8; load 0; return; pop", //
	} {
		well(t, of(text))
	}
	for _, c := range []struct {
		text string
		at   int
	}{
		{"load 0; return", 0}, {"load 1; return", 0}, {"const 0; store 1; load 0; return", 2}, {"const 0; store 0; load 1; return", 2}, {"load 0; store 0; load 0; return", 0},
		{"const 0; branch 4 0; const 0; store 0; load 0; return", 4}, {"const 0; branch 5 0; const 0; store 0; jump 6; jump 6; load 0; return", 6},
		{"const 0; branch 5 0; const 0; store 1; jump 7; const 0; store 0; load 0; return", 7}, {"const 0; branch 5 0; const 0; store 0; jump 7; const 0; store 1; load 0; return", 7},
		{"jump 3; load 0; return; jump 1", 1}, {"jump 3; const 0; store 0; load 0; return", 3}, {"jump 4; const 0; store 0; jump 4; load 0; return", 4},
		{"const 0; is 0 4; const 0; store 0; load 0; return", 4}, {"const 0; parts 1 3; store 0; load 0; return", 3}, {"peek 2; store 0; load 0; return", 2}, {"const 0; cons 4; store 0; store 1; load 0; return", 4},
		{"2*const 0; same 5; const 0; store 0; load 0; return", 5}, {"const 0; wait 4; const 0; store 0; load 0; return", 4}, {"take; next 2; load 0; return", 2},
	} {
		unset(t, c.text, c.at)
	}
}

// P15.2, 4: loops: what is set in one, and read ahead of it the next time; and behind it.
func TestLocalsInLoops(t *testing.T) {
	unset(t, "take; const 0; branch 6 0; const 0; store 0; jump 0; load 0; return", 6) // it may be left at once
	well(t, of("const 0; store 0; const 0; branch 7 0; const 0; store 0; jump 2; load 0; return"))
	unset(t, "load 0; pop; const 0; store 0; jump 0", 0)
	well(t, of("const 0; store 0; load 0; pop; const 0; store 0; jump 2"))
	unset(t, "jump 4; load 0; pop; jump 4; const 0; branch 1 0; const 0; store 0; jump 1", 1)
	well(t, of("jump 4; load 0; pop; jump 4; const 0; store 0; const 0; branch 1 0; jump 1"))
	// Only the second time round a way leads there on which it is not set.
	unset(t, "const 0; branch 4 0; const 0; store 0; const 0; branch 0 0; load 0; return", 6)
	unset(t, "jump 5; load 1; pop; const 0; return; const 0; branch 9 0; const 0; store 1; const 0; branch 3 0; jump 1", 1)
	// A long way back, instruction by instruction.
	unset(t, "jump 7; load 0; return; jump 1; jump 3; jump 4; jump 5; jump 6", 1)
}

// P15.2, 4: from CTry and CGuard a way leads to the handler with what is set there.
func TestLocalsOfHandlers(t *testing.T) {
	unset(t, "try 5; const 0; store 0; done; jump 7; 2*pop; load 0; return", 7)
	well(t, of("const 0; store 0; try 7; const 0; store 1; done; jump 9; 2*pop; load 0; return"))
	unset(t, "const 0; store 0; try 7; const 0; store 1; done; jump 9; 2*pop; load 1; return", 9)
	well(t, of("try 5; const 0; store 0; done; jump 7; store 1; store 0; load 0; return"))
	unset(t, "try 5; const 0; store 0; done; jump 7; store 1; store 0; load 1; return", 7)
	unset(t, "guard 4; const 0; store 0; done; load 0; return", 4)
	well(t, of("const 0; store 0; guard 6; const 0; store 0; done; load 0; return"))
	unset(t, "guard 4; const 0; store 0; jump 3; load 0; return", 4)
	// The inner handler is reached with what is set ahead of the inner one.
	well(t, of("guard 7; const 0; store 0; guard 6; done; jump 6; done; const 0; return"))
	well(t, of("guard 8; const 0; store 0; guard 6; done; jump 6; load 0; raise 0; const 0; return"))
	unset(t, "guard 8; const 0; store 0; guard 6; done; jump 6; load 0; raise 0; load 0; return", 8)
}

// P15.2, 4: arguments are set at first.
func TestLocalsOfArguments(t *testing.T) {
	for _, c := range []struct{ arity, locals, load int }{{1, 1, 0}, {3, 3, 2}, {3, 5, 2}, {255, 255, 254}, {255, 1024, 254}, {64, 65, 63}, {65, 66, 64}} {
		well(t, prog(fun("f", c.arity, c.locals, fmt.Sprintf("load %d; return", c.load))))
	}
	for _, c := range []struct{ arity, locals, load int }{{0, 1, 0}, {1, 2, 1}, {3, 5, 3}, {3, 5, 4}, {255, 256, 255}, {255, 1024, 255}, {255, 1024, 1023}, {0, 1024, 1023}, {64, 65, 64}, {65, 67, 66}} {
		load := fmt.Sprintf("load %d; return", c.load)
		refuses(t, prog(fun("f", c.arity, c.locals, load)), api.ErrUnset, 0)
		well(t, prog(fun("f", c.arity, c.locals, fmt.Sprintf("const 0; store %d; %s", c.load, load))))
	}
}

// P15.2, 4: each of many locals by itself.
func TestManyLocals(t *testing.T) {
	for _, arity := range []int{0, 1, 63, 64, 65, 255} {
		all := ""
		for n := arity; n < api.MaxLocals; n++ {
			all += fmt.Sprintf("const 0; store %d;", n)
		}
		for _, n := range []int{arity, arity + 1, arity + 62, arity + 63, arity + 64, arity + 65, arity + 127, arity + 128, 511, 512, 1022, 1023} {
			load := fmt.Sprintf("load %d; return", n)
			well(t, prog(fun("f", arity, api.MaxLocals, all+load)))
			others := fun("f", arity, api.MaxLocals, all+load)
			others.Code[2*(n-arity)+1].Op = api.CPop
			others.Code[2*(n-arity)+1].A = 0
			refuses(t, prog(others), api.ErrUnset, len(others.Code)-2)
		}
	}
}

// P15.2, 4: of several the lowest instruction, whatever local it loads and whenever it is reached.
func TestLowestUnset(t *testing.T) {
	unset(t, "load 1; pop; load 0; return", 0)
	unset(t, "load 0; pop; load 1; return", 0)
	unset(t, "const 0; store 0; load 0; pop; load 1; pop; load 1; return", 4)
	unset(t, "jump 3; load 0; return; load 1; pop; jump 1", 1)
	unset(t, "jump 4; take; load 1; return; load 0; pop; const 0; store 1; jump 1", 4)
	for _, c := range []struct{ first, second int }{{1023, 0}, {0, 1023}, {64, 63}, {63, 64}, {128, 5}, {5, 128}} {
		refuses(t, prog(fun("f", 0, 1024, fmt.Sprintf("take; load %d; pop; load %d; return", c.first, c.second))), api.ErrUnset, 1)
		refuses(t, prog(fun("f", 0, 1024, fmt.Sprintf("const 0; store %d; load %d; pop; load %d; return", c.first, c.first, c.second))), api.ErrUnset, 4)
	}
}

// P15.2: the ways of all functions come ahead of the locals of each; these function by function.
func TestLocalsLast(t *testing.T) {
	early, late, ways := fun("f", 0, 1, "take; load 0; return"), fun("g", 0, 1, "load 0; return"), fun("h", 0, 1, "take; pop")
	refuses(t, prog(early, late), api.ErrUnset, 1)
	refuses(t, prog(late, early), api.ErrUnset, 0)
	refuses(t, prog(early, ways), api.ErrFlow, 4)
	refuses(t, prog(early, late, ways), api.ErrFlow, 6)
	refuses(t, prog(fun("a", 0, 0, "const 0; return"), early), api.ErrUnset, 3)
	c := prog(early)
	c.Mods = append(c.Mods, api.Mod{Name: "n", Funs: []api.Fun{ways}})
	refuses(t, c, api.ErrFlow, 4)
	c.Mods[0].Funs[0] = fun("f", 0, 0, "const 0; return")
	c.Mods[1].Funs = []api.Fun{fun("f", 0, 0, "const 0; return"), late}
	refuses(t, c, api.ErrUnset, 4)
	// A function's own ways, too.
	refuses(t, prog(fun("f", 0, 1, "load 0; pop; pop")), api.ErrFlow, 2)
}
