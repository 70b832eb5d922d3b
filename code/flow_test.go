package code_test

import (
	"fmt"
	"strconv"
	"strings"
	"testing"

	"heddle/api"
	"heddle/bif"
	"heddle/code"
)

// needs are instructions, with how many terms each takes away, and how many it puts in their place. Those that may go elsewhere go to @. The functions 0, 1 and 2 have three, two and no arguments.
var needs = []struct {
	text        string
	takes, puts int
}{
	{"const 0", 0, 1}, {"load 0", 0, 1}, {"store 0", 1, 0}, {"pop", 1, 0}, {"dup", 1, 2},
	{"tuple 0", 0, 1}, {"tuple 1", 1, 1}, {"tuple 5", 5, 1}, {"tuple 4096", 4096, 1}, {"list 1", 2, 1}, {"list 2", 3, 1}, {"list 4096", 4097, 1},
	{"call 0", 3, 1}, {"call 1", 2, 1}, {"call 2", 0, 1}, {"tail 0", 3, 1}, {"tail 1", 2, 1}, {"tail 2", 0, 1},
	{"remote 1 0", 0, 1}, {"remote 1 1", 1, 1}, {"remote 12 255", 255, 1}, {"leave 1 0", 0, 1}, {"leave 12 2", 2, 1}, {"leave 1 255", 255, 1},
	{"jump @", 0, 0}, {"branch @ 0", 1, 0}, {"branch @ 1", 1, 0}, {"is 0 @", 1, 0}, {"parts 0 @", 1, 0}, {"parts 1 @", 1, 1}, {"parts 3 @", 1, 3}, {"parts 4096 @", 1, 4096}, {"cons @", 1, 2}, {"same @", 2, 0},
	{"raise 0", 1, 0}, {"raise 1", 1, 0}, {"raise 2", 1, 0}, {"try @", 0, 0}, {"guard @", 0, 0}, {"send", 2, 1}, {"peek @", 0, 1}, {"next @", 0, 0}, {"take", 0, 0}, {"wait @", 1, 0},
	{"act 0", 0, 1}, {"act 1", 0, 1}, {"act 2", 3, 1}, {"act 3", 4, 1}, {"act 4", 1, 1}, {"act 8", 2, 1}, {"act 15", 0, 1}, {"act 16", 1, 1},
	{"bif 0", 1, 1}, {"bif 2", 1, 1}, {"bif 3", 2, 1}, {"bif 20", 2, 1}, {"bif 21", 1, 1}, {"bif 22", 2, 1}, {"bif 35", 3, 1}, {"bif 43", 1, 1},
}

// isLast: does an instruction never go on with the next one?
func isLast(text string) bool {
	word, _, _ := strings.Cut(text, " ")
	return strings.Contains(" tail leave return jump raise next ", " "+word+" ")
}

// three is a program with functions of three, two and no arguments, the first of which has this code.
func three(text string) api.Code {
	return prog(fun("f", 3, 3, text), fun("g", 2, 2, "load 0; return"), fun("h", 0, 0, "const 0; return"))
}

// endless is the program of an instruction behind others. It goes on for ever at the next one, and at the other one, whatever height and handlers it brings there.
func endless(ahead, text string) api.Code {
	n := 0
	if ahead != "" {
		n = len(insns(strings.TrimSuffix(ahead, ";")))
	}
	text = strings.ReplaceAll(text, "@", strconv.Itoa(n+2))
	return three(fmt.Sprintf("%s%s; jump %d; jump %d", ahead, text, n+1, n+2))
}

// P15.2, 3: of each instruction a stack that is just high enough, one that is higher, one that is too low; P15.3: how high it is behind.
func TestStackOfEach(t *testing.T) {
	for _, n := range needs {
		for _, more := range []int{0, 1, 2, 100} {
			c := endless(upTo(n.takes+more), n.text)
			want := max(n.takes, n.puts) + more
			if strings.HasPrefix(n.text, "try") {
				want += 2
			}
			well(t, c)
			high(t, c, 0, want)
		}
		for _, less := range []int{1, 2, n.takes} {
			if 0 < less && less <= n.takes {
				refuses(t, endless(upTo(n.takes-less), n.text), api.ErrFlow, n.takes-less)
			}
		}
	}
	for i, b := range bif.All() {
		well(t, endless(upTo(b.Arity), "bif "+strconv.Itoa(i)))
		refuses(t, endless(upTo(b.Arity-1), "bif "+strconv.Itoa(i)), api.ErrFlow, b.Arity-1)
	}
	for i, b := range code.Acts() {
		well(t, endless(upTo(b.Arity), "act "+strconv.Itoa(i)))
		if b.Arity > 0 {
			refuses(t, endless(upTo(b.Arity-1), "act "+strconv.Itoa(i)), api.ErrFlow, b.Arity-1)
		}
	}
}

// P15.2, 3: the stack is MaxStack high behind each instruction that makes it higher, or one higher; P15.3: of the height MaxStack.
func TestMaxStack(t *testing.T) {
	for _, n := range needs {
		grows := n.puts - n.takes
		if strings.HasPrefix(n.text, "try") {
			grows = 2 // where its handler goes on
		}
		most := api.MaxStack - max(grows, 0)
		c := endless(upTo(most), n.text)
		well(t, c)
		high(t, c, 0, api.MaxStack)
		if grows > 0 {
			refuses(t, endless(upTo(most+1), n.text), api.ErrFlow, most+1)
			refuses(t, endless(upTo(api.MaxStack), n.text), api.ErrFlow, api.MaxStack)
		}
	}
	refuses(t, endless(upTo(api.MaxStack+5), "take"), api.ErrFlow, api.MaxStack)
	refuses(t, three("const 0; dup; jump 1"), api.ErrFlow, 2)
}

// P15.2, 3: the height behind the other way is that without what is taken away.
func TestOtherWays(t *testing.T) {
	for _, n := range needs {
		if !strings.Contains(n.text, "@") {
			continue
		}
		// Where the other way ends, the stack is of height 1 only if it came there with 1.
		other := 0
		if strings.HasPrefix(n.text, "try") {
			other = 2
		}
		for _, left := range []int{0, 1, 2} {
			want := left + other
			height := n.takes + left
			text := fmt.Sprintf("%s%s; jump %d; return", upTo(height), strings.ReplaceAll(n.text, "@", strconv.Itoa(height+2)), height+1)
			if want == 1 {
				well(t, three(text))
			} else {
				refuses(t, three(text), api.ErrFlow, height+2)
			}
		}
	}
}

// P15.2, 3: CReturn at the height 1 alone.
func TestReturnHeight(t *testing.T) {
	well(t, of("const 0; return"))
	for _, height := range []int{0, 2, 3, 100, api.MaxStack} {
		noFlow(t, upTo(height)+"return", height)
	}
	noFlow(t, "const 0; dup; return", 2)
	well(t, of("2*const 0; pop; return"))
}

// P15.2, 3: CReturn, CTail and CLeave without handlers, CDone with one.
func TestHandlers(t *testing.T) {
	for _, h := range []string{"try", "guard"} {
		for _, end := range []string{"const 0; return", "tail 2", "leave 1 0"} {
			ends := len(insns(end))
			well(t, three(fmt.Sprintf("%s %d; done; %s; jump %d", h, 2+ends, end, 2+ends)))
			refuses(t, three(fmt.Sprintf("%s %d; %s; jump %d", h, 1+ends, end, 1+ends)), api.ErrFlow, ends)
			refuses(t, three(fmt.Sprintf("%s %d; %s %d; done; %s; jump %d; jump %d", h, 4+ends, h, 3+ends, end, 3+ends, 4+ends)), api.ErrFlow, 2+ends)
			well(t, three(fmt.Sprintf("%s %d; %s %d; done; done; %s; jump %d; jump %d", h, 5+ends, h, 4+ends, end, 4+ends, 5+ends)))
		}
		noFlow(t, h+" 3; done; done; jump 3", 2)
		well(t, of(h+" 3; const 0; raise 0; jump 3"))
		well(t, of(h+" 3; take; jump 1; jump 3"))
	}
	noFlow(t, "done; jump 1", 0)
	noFlow(t, "const 0; done; return", 1)
	// The handler goes when it is taken: behind it there are those ahead of its CTry.
	noFlow(t, "try 1; done; jump 0", 0)
	noFlow(t, "guard 2; jump 1; done; jump 3", 2)
	noFlow(t, "try 2; jump 1; done; jump 3", 2)
	well(t, of("guard 4; guard 3; jump 2; done; jump 4"))
	well(t, of("try 6; try 3; jump 2; pop; done; return; pop; return"))
	noFlow(t, "try 5; try 3; jump 2; pop; return; pop; return", 4)
}

// P15.2, 3: each instruction as the last one: only those that never go on with the next one may be it.
func TestLast(t *testing.T) {
	for _, n := range needs {
		ahead := "jump 2; jump 1;" + upTo(n.takes)
		c := three(ahead + strings.ReplaceAll(n.text, "@", "1"))
		if isLast(n.text) {
			well(t, c)
		} else {
			refuses(t, c, api.ErrFlow, 2+n.takes)
		}
	}
	well(t, of("const 0; return"))
	noFlow(t, "guard 2; jump 3; jump 2; done", 3)
	noFlow(t, "const 0", 0)
	noFlow(t, "jump 1; const 0; pop", 2)
}

// P15.2, 3: instructions that two ways reach with one height and one number of handlers, or with others.
func TestMeetings(t *testing.T) {
	for _, text := range []string{
		"const 0; branch 2 0; const 0; return", "const 0; is 0 2; const 0; return", "const 0; parts 0 2; const 0; return", "2*const 0; same 3; const 0; return", "const 0; wait 2; const 0; return",
		"const 0; branch 4 0; const 0; return; const 0; return", "const 0; branch 4 0; const 0; jump 5; const 0; return",
		"const 0; branch 0 0; const 0; return", "jump 0", "next 0", "take; jump 0", "const 0; pop; jump 0", "const 0; dup; pop; jump 1", "try 2; jump 1; 2*pop; jump 0", "guard 2; jump 1; jump 0", "guard 3; done; jump 0; jump 3",
		"2*const 0; branch 1 0; return", "2*const 0; pop; jump 1", "const 0; is 0 0; const 0; jump 1",
		"peek 3; pop; jump 0; jump 0", "const 0; cons 4; 2*pop; jump 4; jump 0",
	} {
		well(t, of(text))
	}
	for _, c := range []struct {
		text string
		at   int
	}{
		{"const 0; parts 1 2; const 0; return", 1}, {"const 0; parts 2 2; return", 1}, {"const 0; cons 2; const 0; return", 1}, {"peek 1; return", 0}, {"try 1; return", 0}, {"guard 1; const 0; return", 0},
		{"const 0; branch 4 0; const 0; jump 4; const 0; return", 3}, {"const 0; branch 3 0; const 0; const 0; return", 2}, {"const 0; jump 0", 1}, {"2*const 0; branch 0 0; return", 2},
		{"guard 3; const 0; pop; const 0; return", 2}, {"guard 3; take; jump 0; jump 3", 2}, {"guard 2; done; jump 4; jump 3; guard 3; jump 2", 5}, {"try 3; take; jump 0; jump 3", 2}, {"try 3; 2*const 0; 2*pop; const 0; return", 2},
		{"const 0; dup; jump 1", 2}, {"3*const 0; pop; jump 1", 4}, {"take; guard 0; take; jump 1", 3}, {"jump 1; const 0; jump 1", 2}, {"const 0; is 0 0; 2*const 0; jump 1", 4},
	} {
		noFlow(t, c.text, c.at)
	}
}

// P15.2, 3: faults that are found only when all instructions are gone through again; which of several is found first.
func TestRounds(t *testing.T) {
	for _, c := range []struct {
		text string
		at   int
	}{
		{"jump 3; pop; jump 2; jump 1", 1},                           // the second time
		{"jump 5; pop; jump 1; jump 2; jump 3; jump 4", 1},           // the fifth time
		{"jump 3; return; jump 1; const 0; const 0; jump 2", 1},      // with another height
		{"const 0; branch 4 0; jump 5; pop; jump 3; pop", 5},         // 5 is found in the first round, 3 in the second
		{"const 0; branch 4 0; jump 5; pop; jump 3; jump 5", 3},      //
		{"const 0; branch 4 0; pop; pop; pop", 2},                    // of one round the lowest
		{"const 0; branch 2 0; take; pop; pop", 3},                   //
		{"jump 4; pop; pop; jump 1; jump 2", 2},                      // 2 is reached by 4, 1 by nobody
		{"const 0; branch 5 0; jump 6; pop; pop; jump 4; jump 3", 3}, // of the second round the lowest
		{"jump 3; pop; take; const 0; branch 2 0; jump 1", 1},        // 1 by 5, 2 by 4, both in the second round
		{"jump 2; jump 4; const 0; branch 1 0; const 0; jump 1", 5},  // 5 gives to 1, which has a state of 3
		{"jump 3; const 0; return; jump 4; const 0; jump 1", 2},      // 1 is given 1 by 5; 2 would return with 2
		{"jump 3; const 0; jump 4; jump 1; const 0; jump 1", 5},      // 4 by 2 with 1, and 5 gives 2 to 1
		{"const 0; branch 3 0; jump 4; jump 5; const 0; return", 4},  // 5 is given 0 by 3, and 1 by 4
		{"const 0; branch 4 0; const 0; jump 5; jump 6; jump 6; jump 5", 5},
		{"const 0; branch 4 0; const 0; jump 6; jump 5; jump 6; return", 5},
	} {
		noFlow(t, c.text, c.at)
	}
}

// P15.2, 3: who gives another state is told, not who has one.
func TestWhoGives(t *testing.T) {
	noFlow(t, "const 0; branch 4 0; const 0; jump 5; jump 5; return", 4) // 3 came first, with 1
	noFlow(t, "const 0; branch 4 0; jump 5; take; const 0; return", 4)   // 2 came first, with 0; 5 is not gone through yet
	noFlow(t, "jump 2; pop; const 0; branch 1 0; jump 1", 1)             // both give the same
	noFlow(t, "jump 2; return; const 0; branch 1 0; const 0; jump 1", 5) // 3 gives 0 to 1, 5 gives 1 ahead of the second round
	noFlow(t, "jump 2; return; const 0; branch 1 0; take; jump 1", 1)
}

// P15.2, 3: what nobody reaches has no state.
func TestUnreached(t *testing.T) {
	for _, text := range []string{
		"const 0; return; pop; pop", "const 0; return; return", "const 0; return; done; const 0", "const 0; raise 0; const 0; jump 0", "tail 0; guard 1; return", "leave 1 0; jump 1; jump 0; pop",
		"jump 2; pop; const 0; return", "next 3; dup; parts 4096 1; const 0; return", "const 0; return; " + upTo(api.MaxStack+1) + "pop", "const 0; return; load 1; return", "const 0; return; try 0; try 1",
	} {
		well(t, of(text))
		high(t, of(text), 0, 1)
	}
	well(t, of("jump 1; jump 1; tail 0; leave 1 9; store 0"))
}

// P15.2, 3: function by function, the first one's fault; numbered through.
func TestFlowInOrder(t *testing.T) {
	ends := "const 0; return"
	c := api.Code{Consts: consts(), Mods: []api.Mod{
		{Name: "m", Funs: []api.Fun{fun("f", 0, 0, ends), fun("g", 0, 0, ends)}},
		{Name: "n"},
		{Name: "o", Funs: []api.Fun{fun("f", 0, 0, "take; "+ends), fun("g", 0, 0, "take; pop"), fun("h", 0, 0, "pop")}},
	}}
	refuses(t, c, api.ErrFlow, 8)
	c.Mods[2].Funs[1] = fun("g", 0, 0, ends)
	refuses(t, c, api.ErrFlow, 9)
	c.Mods[2].Funs[2] = fun("h", 0, 0, ends)
	well(t, c)
	c.Mods[0].Funs[1] = fun("g", 0, 0, "const 0; const 0; return")
	refuses(t, c, api.ErrFlow, 4)
}

// P15.2, 3: a call takes as many as the called function of the own module has arguments.
func TestCalled(t *testing.T) {
	for arity := range 4 {
		c := prog(fun("f", 0, 0, fmt.Sprintf("%scall 1; return", upTo(arity))), fun("g", arity, arity, "const 0; return"))
		well(t, c)
		high(t, c, 0, max(arity, 1))
		c.Mods = append([]api.Mod{{Name: "n", Funs: []api.Fun{fun("a", 9, 9, "const 0; return"), fun("b", 9, 9, "const 0; return")}}}, c.Mods...)
		well(t, c)
		if arity > 0 {
			c.Mods[1].Funs[0] = fun("f", 0, 0, fmt.Sprintf("%scall 1; return", upTo(arity-1)))
			refuses(t, c, api.ErrFlow, 4+arity-1)
		}
		c.Mods[1].Funs[0] = fun("f", 0, 0, fmt.Sprintf("%scall 1; return", upTo(arity+1)))
		refuses(t, c, api.ErrFlow, 4+arity+2)
		c.Mods[1].Funs[0] = fun("f", 0, 0, fmt.Sprintf("%stail 1", upTo(arity+1)))
		well(t, c)
	}
}

// Rule 1: as many instructions as may be, of which each goes on with the one ahead of it, so that a round finds just one.
func TestLongWayBack(t *testing.T) {
	l := insns(fmt.Sprintf("jump %d; pop; const 0; return", api.MaxInsns-1))
	for i := len(l); i < api.MaxInsns; i++ {
		l = append(l, api.Insn{Op: api.CJump, A: i - 1})
	}
	l[4].A = 1
	c := prog(api.Fun{Name: "f", Locals: 100, Code: l})
	refuses(t, c, api.ErrFlow, 1)
	l[1] = api.Insn{Op: api.CLoad, A: 99}
	l[2] = api.Insn{Op: api.CTake}
	refuses(t, c, api.ErrUnset, 1)
	l[1] = api.Insn{Op: api.CConst}
	well(t, c)
}
