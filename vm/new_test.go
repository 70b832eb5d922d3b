package vm_test

import (
	"strings"
	"testing"

	"heddle/api"
	"heddle/code"
	"heddle/sample"
	"heddle/vm"
)

// noProcess holds that New refuses with this chain of faults.
func noProcess(t *testing.T, what string, c api.Code, args []api.Term, who api.Who, chain ...api.Fault) {
	t.Helper()
	v, err := vm.New(c, "m", "f", args, who)
	if v != nil || !sample.IsFault(err, chain...) {
		t.Errorf("%s: %v, %v, want %v", what, v, err, chain)
	}
}

// identity is code of functions that end with their first argument; f takes none.
func identity(t testing.TB) api.Code {
	return made(t, "ok", "f 0 0: const 0; raise 1", "f 1 1: load 0; raise 1", "f 2 3: load 0; raise 1", "f 255 255: load 254; raise 1", "g 0 0: const 0; return")
}

// P18.1: a process that New makes is Ready, without messages, with one frame.
func TestNew(t *testing.T) {
	for _, args := range [][]api.Term{nil, {}, {num(1)}, {tuple(num(1), pid("m@h", 2, 3, 4)), num(2)}} {
		v := start(t, identity(t), args...)
		play(t, v, "is: ready 0 1 []")
		want := "ok"
		if len(args) > 0 {
			want = show(args[0])
		}
		play(t, v, "run 1 0: end "+want+" 0", "is: ended 0 0 []")
	}
}

// P18.1: 255 args may be, 256 not; also where no function takes so many.
func TestNewArity(t *testing.T) {
	many := sample.Ones(255)
	many[254] = word("last")
	play(t, start(t, identity(t), many...), "is: ready 0 1 []", "run 1 0: end last 0")
	play(t, start(t, made(t, "ok", "f 0 0: const 0; return"), many...), "is: ready 0 0 []", "run 1 0: end undef 0")
	for _, n := range []int{256, 257, 5000} {
		noProcess(t, "too many args", identity(t), sample.Ones(n), who(), fault(0, api.ErrArity))
	}
}

// P18.1: code that is not well formed: code.Check's number at its place, its fault under.
func TestNewCode(t *testing.T) {
	insns := func(l ...api.Insn) api.Code {
		return api.Code{Consts: []api.Term{num(1)}, Mods: []api.Mod{{Name: "m", Funs: []api.Fun{{Name: "f", Locals: 1, Code: l}}}}}
	}
	wrongConst := insns(api.Insn{Op: api.CConst}, api.Insn{Op: api.CReturn})
	wrongConst.Consts = append(wrongConst.Consts, num(1), tuple(num(1), word("\xff")))
	for _, x := range []struct {
		what string
		c    api.Code
		code api.Errno
		at   int
	}{
		{"a pop of nothing", insns(api.Insn{Op: api.CConst}, api.Insn{Op: api.CPop}, api.Insn{Op: api.CPop}), api.ErrFlow, 2},
		{"no Op", insns(api.Insn{Op: api.CConst}, api.Insn{Op: 30}), api.ErrCode, 1},
		{"an unset local", insns(api.Insn{Op: api.CLoad}, api.Insn{Op: api.CReturn}), api.ErrUnset, 0},
		{"no instruction", insns(), api.ErrFlow, 0},
		{"modules of one name", api.Code{Mods: []api.Mod{{Name: "m"}, {Name: "m"}}}, api.ErrTwice, 0},
		{"too many modules", api.Code{Mods: make([]api.Mod, api.MaxMods+1)}, api.ErrMany, 0},
		{"too many constants", api.Code{Consts: sample.Ones(api.MaxConsts + 1)}, api.ErrMany, 0},
	} {
		noProcess(t, x.what, x.c, nil, who(), fault(x.at, x.code), api.Fault{Layer: "code", At: x.at, Code: x.code})
		// It comes ahead of all else.
		noProcess(t, x.what, x.c, make([]api.Term, 256), api.Who{}, fault(x.at, x.code), api.Fault{Layer: "code", At: x.at, Code: x.code})
	}
	noProcess(t, "a constant that is no term", wrongConst, nil, who(), fault(2, api.ErrUTF),
		api.Fault{Layer: "code", At: 2, Code: api.ErrUTF}, api.Fault{Layer: "term", At: 2, Code: api.ErrUTF}, api.Fault{Layer: "atom", Code: api.ErrUTF})
}

// P18.1: an arg that is no term: at its place, with package term's fault under; the first one counts.
func TestNewArgs(t *testing.T) {
	for _, w := range sample.NoTerms() {
		for place := range 4 {
			args := sample.Ones(4)
			args[place] = w.Value
			noProcess(t, "an arg", identity(t), args, who(), under(place, w.Chain)...)
			for _, v := range sample.NoTerms() {
				if place < 3 {
					args[3] = v.Value
					noProcess(t, "two args", identity(t), args, who(), under(place, w.Chain)...)
				}
			}
			noProcess(t, "an arg, and nobody", identity(t), args, api.Who{}, under(place, w.Chain)...)
		}
		last := append(sample.Ones(254), w.Value)
		noProcess(t, "the last arg", identity(t), last, who(), under(254, w.Chain)...)
		noProcess(t, "too many args, one of them no term", identity(t), append(last, w.Value), who(), fault(0, api.ErrArity))
	}
}

// P18.1: a Self that is no term, that is no pid, a Node that is no node's name; in this order.
func TestNewWho(t *testing.T) {
	names := []string{"", "n", "@h", "n@", "n@h@i", "n h@i", "n@\xff", strings.Repeat("n", 63) + "@h"}
	for _, w := range sample.NoTerms() {
		noProcess(t, "Self", identity(t), nil, api.Who{Self: w.Value, Node: "n@h"}, under(0, w.Chain)...)
		for _, n := range names {
			noProcess(t, "Self and Node", identity(t), nil, api.Who{Self: w.Value, Node: n}, under(0, w.Chain)...)
		}
	}
	for _, self := range []api.Term{num(1), word("a"), sample.Ref("n@h", 1, 1, 2, 3), tuple(who().Self), null(), list(who().Self, null())} {
		noProcess(t, "no pid", identity(t), nil, api.Who{Self: self, Node: "n@h"}, fault(0, api.ErrArg))
		noProcess(t, "no pid and no name", identity(t), nil, api.Who{Self: self, Node: ""}, fault(0, api.ErrArg))
	}
	for _, n := range names {
		noProcess(t, n, identity(t), nil, api.Who{Self: who().Self, Node: n}, fault(0, api.ErrName), api.Fault{Layer: "atom", Code: api.ErrName})
	}
}

// P18.1: whoever is told, it is what self and node answer.
func TestNewAnyone(t *testing.T) {
	long := strings.Repeat("n", 62) + "@h"
	for _, w := range []api.Who{{Self: pid("m@i", 4294967295, 0, 4294967295), Node: "n@h"}, {Self: pid(long, 0, 1, 2), Node: long}, {Self: who().Self, Node: "A_0-9@B.c"}} {
		v, err := vm.New(source(t, "f() -> exit({self(), node()}).", 0), "m", "f", nil, w)
		if err != nil {
			t.Errorf("%v: %v", w, err)
			continue
		}
		e, _ := v.Run(9, 0)
		if !sample.Same(e.Reason, tuple(w.Self, word(w.Node))) || e.Used != 2 {
			t.Errorf("%v: %s", w, tell(e))
		}
	}
}

// undef holds that a call of what is not exported is a process without a frame, whose first Run raises undef.
func undef(t *testing.T, c api.Code, mod, fun string, args ...api.Term) {
	t.Helper()
	v, err := vm.New(c, mod, fun, args, who())
	if err != nil {
		t.Fatalf("%s:%s/%d: %v", mod, fun, len(args), err)
	}
	play(t, v, "is: ready 0 0 []", "resume a !360", "raise exit a !360", "put a", "run 0 0 !1", "is: ready 0 0 [a]", "run 1 7: end undef 0", "is: ended 0 0 [a]", "run 1 7 !8")
}

// P18.1: no such module, no export, another number of arguments.
func TestNewUndef(t *testing.T) {
	c, err := code.Read("const ok\nmodule m\nexport 0 2\nfun f 0 0\n const 0\n return\nfun g 0 0\n const 0\n return\nfun h 2 2\n load 1\n return\nmodule k\nfun f 1 1\n load 0\n return\nmodule ''\nexport 0\nfun '' 0 0\n const 0\n return\n")
	done(t, "Read", err)
	undef(t, c, "x", "f")
	undef(t, c, "m", "x")
	undef(t, c, "m", "g")
	undef(t, c, "m", "f", num(1))
	undef(t, c, "m", "h", num(1))
	undef(t, c, "k", "f", num(1))
	undef(t, c, "k", "f")
	undef(t, c, "k", "h", num(1), num(2))
	undef(t, c, "m ", "f")
	undef(t, c, "\xff", "\xff")
	undef(t, c, strings.Repeat("m", 300), strings.Repeat("f", 300))
	undef(t, c, "", "f")
	undef(t, api.Code{}, "m", "f")
	for _, name := range [][3]string{{"m", "f", ""}, {"m", "h", "ab"}, {"", "", ""}} {
		v, err := vm.New(c, name[0], name[1], sample.Ones(len(name[2])), who())
		done(t, "New", err)
		play(t, v, "is: ready 0 1 []", "run 1 0: end normal 0")
	}
}

// P18.1: of several modules with functions of one name the one that is named is called.
func TestNewModules(t *testing.T) {
	c, err := code.Read("const a\nconst b\nmodule m\nexport 0 1\nfun f 0 0\n const 0\n raise 1\nfun f 1 1\n load 0\n raise 1\nmodule k\nexport 1\nfun f 1 1\n const 0\n raise 0\nfun f 0 0\n const 1\n raise 1\n")
	done(t, "Read", err)
	for _, x := range []struct{ mod, want string }{{"m", "a"}, {"k", "b"}} {
		v, err := vm.New(c, x.mod, "f", nil, who())
		done(t, "New", err)
		runs(t, v, 1, 0, "end "+x.want+" 0")
	}
}
