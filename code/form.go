package code

import (
	"slices"

	"heddle/api"
	"heddle/atom"
	"heddle/bif"
)

// operand is what an instruction's A or B is.
type operand int

const (
	nothing operand = iota // it is 0
	constant
	callee // a constant, a tuple of two atoms
	local
	size
	length // a size, 1 at least
	builtin
	function
	arity
	place // an instruction
	choice
	class
	act
)

// form is an Op's name, and what A and B are: there is no B without an A.
type form struct {
	name string
	a, b operand
}

// forms are those of all Ops, from 1 on.
var forms = [...]form{
	{"const", constant, nothing}, {"load", local, nothing}, {"store", local, nothing}, {"pop", nothing, nothing}, {"dup", nothing, nothing},
	{"tuple", size, nothing}, {"list", length, nothing}, {"bif", builtin, nothing},
	{"call", function, nothing}, {"tail", function, nothing}, {"remote", callee, arity}, {"leave", callee, arity}, {"return", nothing, nothing},
	{"jump", place, nothing}, {"branch", place, choice}, {"is", constant, place}, {"parts", size, place}, {"cons", place, nothing}, {"same", place, nothing},
	{"raise", class, nothing}, {"try", place, nothing}, {"guard", place, nothing}, {"done", nothing, nothing},
	{"send", nothing, nothing}, {"act", act, nothing},
	{"peek", place, nothing}, {"next", place, nothing}, {"take", nothing, nothing}, {"wait", place, nothing},
}

// named is how many of A and B are something.
func (f form) named() int {
	switch {
	case f.b != nothing:
		return 2
	case f.a != nothing:
		return 1
	}
	return 0
}

// program is one that is checked, with what its instructions may name beside it.
type program struct {
	api.Code
	bifs, acts []api.Bif
}

func programOf(c api.Code) *program { return &program{Code: c, bifs: bif.All(), acts: Acts()} }

// unit is a function of a program, and the number, globally, of its first instruction.
type unit struct {
	*program
	mod   api.Mod
	fun   api.Fun
	start int
}

// checkEach is the first refusal of the functions, in order.
func (p *program) checkEach(check func(u *unit) error) error {
	start := 0
	for _, m := range p.Mods {
		for _, f := range m.Funs {
			if err := check(&unit{p, m, f, start}); err != nil {
				return err
			}
			start += len(f.Code)
		}
	}
	return nil
}

// checkForms refuses what may not stand where it stands, whatever ways lead there.
func (p *program) checkForms() error {
	start := 0
	for i, m := range p.Mods {
		if err := checkModule(m, p.Mods[:i], start); err != nil {
			return err
		}
		earlier := map[signature]int{}
		for k, f := range m.Funs {
			if err := checkFunction(f, earlier, start); err != nil {
				return err
			}
			if err := (&unit{p, m, f, start}).checkInstructions(); err != nil {
				return err
			}
			earlier[signature{f.Name, f.Arity}] = k
			start += len(f.Code)
		}
	}
	return nil
}

// checkModule refuses a module for what it is itself; its functions come by themselves.
func checkModule(m api.Mod, earlier []api.Mod, start int) error {
	switch {
	case !atom.Valid(m.Name):
		return refuse(start, api.ErrCode)
	case slices.ContainsFunc(earlier, func(e api.Mod) bool { return e.Name == m.Name }):
		return refuse(start, api.ErrTwice)
	case len(m.Funs) > api.MaxFuns:
		return refuse(start, api.ErrMany)
	case !rise(m.Exports, len(m.Funs)):
		return refuse(start, api.ErrCode)
	}
	return nil
}

// rise: do numbers rise, from 0 on at least, all below a limit?
func rise(numbers []int, limit int) bool {
	ahead := -1
	for _, n := range numbers {
		if n <= ahead || n >= limit {
			return false
		}
		ahead = n
	}
	return true
}

// signature is what no two functions of a module share.
type signature struct {
	name  string
	arity int
}

// checkFunction refuses a function for what it is itself; its instructions come by themselves.
func checkFunction(f api.Fun, earlier map[signature]int, start int) error {
	if !atom.Valid(f.Name) || f.Arity < 0 || f.Arity > api.MaxArgs || f.Locals < f.Arity || f.Locals > api.MaxLocals {
		return refuse(start, api.ErrCode)
	}
	if _, twice := earlier[signature{f.Name, f.Arity}]; twice {
		return refuse(start, api.ErrTwice)
	}
	if len(f.Code) > api.MaxInsns {
		return refuse(start, api.ErrMany)
	}
	if len(f.Code) == 0 {
		return refuse(start, api.ErrFlow)
	}
	return nil
}

func (u *unit) checkInstructions() error {
	for at, in := range u.fun.Code {
		if !u.hasForm(in) {
			return refuse(u.start+at, api.ErrCode)
		}
	}
	return nil
}

func (u *unit) hasForm(in api.Insn) bool {
	if in.Op < 1 || int(in.Op) > len(forms) {
		return false
	}
	f := forms[in.Op-1]
	return u.names(f.a, in.A) && u.names(f.b, in.B)
}

// names: is a number one of what an operand is?
func (u *unit) names(o operand, n int) bool {
	if n < 0 || n >= u.limit(o) {
		return false
	}
	switch o {
	case length:
		return n > 0
	case callee:
		return isCallee(u.Consts[n])
	}
	return true
}

// limit is how many numbers, from 0 on, an operand has to choose from.
func (u *unit) limit(o operand) int {
	switch o {
	case callee:
		fallthrough
	case constant:
		return len(u.Consts)
	case local:
		return u.fun.Locals
	case length:
		fallthrough
	case size:
		return api.MaxSize + 1
	case builtin:
		return len(u.bifs)
	case function:
		return len(u.mod.Funs)
	case arity:
		return api.MaxArgs + 1
	case place:
		return len(u.fun.Code)
	case choice:
		return 2
	case class:
		return 3
	case act:
		return len(u.acts)
	}
	return 1 // nothing: 0 alone
}

// isCallee: is it {Module, Function}?
func isCallee(t api.Term) bool {
	return t.Kind == api.KTuple && len(t.Args) == 2 && t.Args[0].Kind == api.KAtom && t.Args[1].Kind == api.KAtom
}
