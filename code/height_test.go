package code_test

import (
	"fmt"
	"math"
	"testing"

	"heddle/api"
	"heddle/code"
	"heddle/sample"
)

// P15.3: the greatest height at an instruction, and behind one.
func TestHeight(t *testing.T) {
	for _, c := range []struct {
		text string
		want int
	}{
		{"const 0; return", 1}, {"2*const 0; pop; return", 2}, {"jump 0", 0}, {"take; jump 0", 0}, {"const 0; pop; jump 0", 1}, {"const 0; dup; same 0; jump 0", 2},
		{"const 0; parts 5 5; 2*pop; jump 4; jump 5", 5},                          // behind CParts
		{"const 0; parts 0 3; jump 2; jump 3", 1},                                 //
		{"const 0; cons 3; jump 2; jump 3", 2},                                    //
		{"5*const 0; tuple 5; return", 5},                                         // ahead of CTuple
		{"tuple 0; return", 1},                                                    //
		{"tail 0", 1},                                                             // behind CTail, with the answer
		{"3*const 0; tail 0", 4},                                                  //
		{"leave 1 0", 1},                                                          // behind CLeave
		{"3*const 0; leave 1 0", 4},                                               //
		{"3*const 0; leave 1 1", 3},                                               //
		{"3*const 0; leave 1 3", 3},                                               //
		{"3*const 0; remote 1 0; jump 4", 4},                                      //
		{"const 0; raise 0", 1},                                                   // where the way ends
		{"const 0; branch 3 0; jump 2; 3*const 0; raise 1", 3},                    //
		{"const 0; branch 3 0; jump 2; 3*const 0; tail 0", 4},                     //
		{"const 0; branch 4 0; const 0; return; 7*const 0; jump 11", 7},           // on one way alone
		{"jump 3; const 0; jump 2; jump 1", 1},                                    // in a later round
		{"try 2; jump 1; jump 2", 2},                                              // where a handler goes on
		{"3*const 0; try 5; jump 4; jump 5", 5},                                   //
		{"guard 2; jump 1; jump 2", 0},                                            //
		{"3*const 0; guard 5; jump 4; jump 5", 3},                                 //
		{"const 0; return; 9*const 0; jump 11", 1},                                // nobody goes there
		{"peek 2; jump 1; jump 2", 1},                                             //
		{"const 0; wait 2; jump 2", 1},                                            //
		{upTo(api.MaxStack) + fmt.Sprintf("jump %d", api.MaxStack), api.MaxStack}, //
		{"act 0; act 0; send; return", 2},
	} {
		high(t, of(c.text), 0, c.want)
	}
}

// P15.3: of each function by its module's and its own number; there is no such one.
func TestHeightOf(t *testing.T) {
	c := prog(fun("f", 0, 0, "const 0; return"), fun("g", 0, 0, "2*const 0; pop; return"))
	c.Mods = append(c.Mods, api.Mod{Name: "n"}, api.Mod{Name: "o", Funs: []api.Fun{fun("f", 0, 0, "3*const 0; 2*pop; return"), fun("g", 0, 0, "4*const 0; tail 0"), fun("h", 9, 9, "jump 0")}})
	want := [][]int{{1, 2}, {}, {3, 5, 0}}
	numbers := []int{math.MinInt, -2, -1, 0, 1, 2, 3, 4, 1 << 32, math.MaxInt}
	for _, mod := range numbers {
		for _, f := range numbers {
			h, err := code.Height(c, mod, f)
			if mod >= 0 && mod < 3 && f >= 0 && f < len(want[mod]) {
				if h != want[mod][f] || err != nil {
					t.Errorf("Height(%d, %d) = %d, %v; want %d", mod, f, h, err, want[mod][f])
				}
			} else if h != 0 || !sample.IsFault(err, fault(0, api.ErrRange)) {
				t.Errorf("Height(%d, %d) = %d, %v", mod, f, h, err)
			}
		}
	}
	if h, err := code.Height(api.Code{}, 0, 0); h != 0 || !sample.IsFault(err, fault(0, api.ErrRange)) {
		t.Errorf("Height of no program = %d, %v", h, err)
	}
}

// P15.3: Check's fault comes first, also of another function.
func TestHeightRefuses(t *testing.T) {
	c := prog(fun("f", 0, 0, "const 0; return"), fun("g", 0, 0, "take; pop"))
	for _, n := range []int{0, 1, 2, -1} {
		if h, err := code.Height(c, 0, n); h != 0 || !sample.IsFault(err, fault(3, api.ErrFlow)) {
			t.Errorf("Height(0, %d) = %d, %v", n, h, err)
		}
	}
	c = prog(fun("f", 0, 1, "load 0; return"))
	if h, err := code.Height(c, 7, 7); h != 0 || !sample.IsFault(err, fault(0, api.ErrUnset)) {
		t.Errorf("Height = %d, %v", h, err)
	}
	c.Consts[2] = api.Term{}
	if h, err := code.Height(c, 0, 0); h != 0 || !sample.IsFault(err, fault(2, api.ErrTerm), api.Fault{Layer: "term", Code: api.ErrTerm}) {
		t.Errorf("Height = %d, %v", h, err)
	}
}

// P15.2, P15.3, P15.4, P15.5: the chapter's examples.
func TestExamples(t *testing.T) {
	c := prog(fun("f", 1, 1, "load 0; return"))
	well(t, c)
	high(t, c, 0, 1)
	refuses(t, prog(fun("f", 1, 1, "pop; load 0; return")), api.ErrFlow, 0)
	refuses(t, prog(fun("f", 1, 1, "load 0")), api.ErrFlow, 0)
	high(t, of("try 4; const 0; done; return; pop; return"), 0, 2)
	refuses(t, of("try 3; const 0; done; return; pop; return"), api.ErrFlow, 2)
	refuses(t, prog(fun("f", 0, 1, "load 0; return")), api.ErrUnset, 0)
}
