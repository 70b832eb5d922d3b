package code_test

import (
	"math/rand"
	"slices"
	"strconv"

	"heddle/api"
)

// maker makes well formed programs by chance: of each function phrases that put one term, as a compiler would.
type maker struct {
	r    *rand.Rand
	funs []api.Fun // of the module
	fun  *api.Fun
	set  []bool // locals
}

// program is one of some modules.
func (m *maker) program() api.Code {
	c := api.Code{Consts: consts()}
	for i := range m.r.Intn(3) + 1 {
		mod := api.Mod{Name: "m" + strconv.Itoa(i)}
		for k := range m.r.Intn(3) + 1 {
			arity := m.r.Intn(4)
			locals := arity + m.r.Intn(4)
			if m.r.Intn(10) == 0 {
				locals += 60 + m.r.Intn(20)
			}
			mod.Funs = append(mod.Funs, api.Fun{Name: "f" + strconv.Itoa(k%2), Arity: arity, Locals: locals})
			if k == 2 {
				mod.Funs[k].Name = "g"
			}
			if m.r.Intn(2) == 0 {
				mod.Exports = append(mod.Exports, k)
			}
		}
		m.funs = mod.Funs
		for k := range mod.Funs {
			m.body(&mod.Funs[k])
		}
		c.Mods = append(c.Mods, mod)
	}
	return c
}

// body is a function's code.
func (m *maker) body(f *api.Fun) {
	m.fun, m.set = f, make([]bool, f.Locals)
	for i := range f.Arity {
		m.set[i] = true
	}
	depth := m.r.Intn(4)
	switch m.r.Intn(6) {
	case 0:
		to := m.r.Intn(len(m.funs))
		m.values(m.funs[to].Arity+m.r.Intn(2), depth)
		m.put(api.CTail, to, 0)
	case 1:
		n := m.r.Intn(3)
		m.values(n+m.r.Intn(2), depth)
		m.put(api.CLeave, 1, n)
	case 2:
		m.values(1+m.r.Intn(2), depth)
		m.put(api.CRaise, m.r.Intn(3), 0)
	default:
		m.value(depth)
		m.put(api.CReturn, 0, 0)
	}
}

func (m *maker) put(op api.Op, a, b int) int {
	m.fun.Code = append(m.fun.Code, api.Insn{Op: op, A: a, B: b})
	return len(m.fun.Code) - 1
}

// here says where instructions go that were put without knowing it.
func (m *maker) here(from ...int) {
	for _, i := range from {
		in := &m.fun.Code[i]
		if in.Op == api.CIs || in.Op == api.CParts {
			in.B = len(m.fun.Code)
		} else {
			in.A = len(m.fun.Code)
		}
	}
}

func (m *maker) values(n, depth int) {
	for range n {
		m.value(depth)
	}
}

// value is code that puts one term.
func (m *maker) value(depth int) {
	if depth == 0 {
		m.leaf()
		return
	}
	depth--
	switch m.r.Intn(16) {
	case 0:
		m.leaf()
	case 1:
		n := m.r.Intn(4)
		m.values(n, depth)
		m.put(api.CTuple, n, 0)
	case 2:
		n := m.r.Intn(3) + 1
		m.values(n+1, depth)
		m.put(api.CList, n, 0)
	case 3, 4:
		m.call(depth)
	case 5:
		m.value(depth)
		m.put(api.CDup, 0, 0)
		m.put(api.CPop, 0, 0)
	case 6:
		m.store(depth)
	case 7, 8, 9:
		m.choose(depth)
	case 10:
		m.try(depth)
	case 11:
		m.guard(depth)
	case 12:
		m.receive(depth)
	case 13:
		m.loop(depth)
	case 14:
		m.end(depth)
	case 15:
		m.dead(depth)
	}
}

func (m *maker) leaf() {
	if local := m.r.Intn(len(m.set) + 1); local < len(m.set) && m.set[local] {
		m.put(api.CLoad, local, 0)
		return
	}
	m.put(api.CConst, m.r.Intn(len(consts())), 0)
}

func (m *maker) call(depth int) {
	arities := []int{1, 1, 1, 2, 2, 2}
	switch m.r.Intn(5) {
	case 0:
		at := m.r.Intn(len(arities))
		m.values(arities[at], depth)
		m.put(api.CBif, at, 0)
	case 1:
		to := m.r.Intn(len(m.funs))
		m.values(m.funs[to].Arity, depth)
		m.put(api.CCall, to, 0)
	case 2:
		n := m.r.Intn(3)
		m.values(n, depth)
		m.put(api.CRemote, 12, n)
	case 3:
		at := []int{0, 1, 4, 14, 16}[m.r.Intn(5)]
		m.values([]int{0, 0, 1, 0, 1}[slices.Index([]int{0, 1, 4, 14, 16}, at)], depth)
		m.put(api.CAct, at, 0)
	case 4:
		m.values(2, depth)
		m.put(api.CSend, 0, 0)
	}
}

func (m *maker) store(depth int) {
	m.value(depth)
	if len(m.set) == 0 {
		return
	}
	local := m.r.Intn(len(m.set))
	m.put(api.CStore, local, 0)
	m.set[local] = true
	m.value(depth)
}

// meet: behind two ways what is set on both is set.
func (m *maker) meet(other []bool) {
	for i := range m.set {
		m.set[i] = m.set[i] && other[i]
	}
}

// choose is one of two values, by what another one is.
func (m *maker) choose(depth int) {
	m.value(depth)
	var test, parts int
	switch m.r.Intn(5) {
	case 0:
		test = m.put(api.CBranch, 0, m.r.Intn(2))
	case 1:
		test = m.put(api.CIs, m.r.Intn(len(consts())), 0)
	case 2:
		parts = m.r.Intn(4)
		test = m.put(api.CParts, parts, 0)
	case 3:
		parts = 2
		test = m.put(api.CCons, 0, 0)
	case 4:
		m.value(depth)
		test = m.put(api.CSame, 0, 0)
	}
	ahead := slices.Clone(m.set)
	for range parts {
		if len(m.set) > 0 && m.r.Intn(2) == 0 {
			local := m.r.Intn(len(m.set))
			m.put(api.CStore, local, 0)
			m.set[local] = true
		} else {
			m.put(api.CPop, 0, 0)
		}
	}
	m.value(depth)
	over := m.put(api.CJump, 0, 0)
	m.here(test)
	first := m.set
	m.set = ahead
	m.value(depth)
	m.here(over)
	m.meet(first)
}

func (m *maker) try(depth int) {
	ahead := slices.Clone(m.set)
	try := m.put(api.CTry, 0, 0)
	m.value(depth)
	m.put(api.CDone, 0, 0)
	over := m.put(api.CJump, 0, 0)
	m.here(try)
	m.put(api.CPop, 0, 0)
	m.here(over)
	m.set = ahead
}

func (m *maker) guard(depth int) {
	ahead := slices.Clone(m.set)
	guard := m.put(api.CGuard, 0, 0)
	m.value(depth)
	test := m.put(api.CBranch, 0, 0)
	m.put(api.CDone, 0, 0)
	m.value(depth)
	over := m.put(api.CJump, 0, 0)
	m.here(test)
	m.put(api.CDone, 0, 0)
	m.here(guard)
	first := m.set
	m.set = ahead
	m.value(depth)
	m.here(over)
	m.meet(first)
}

func (m *maker) receive(depth int) {
	ahead := slices.Clone(m.set)
	again := len(m.fun.Code)
	peek := m.put(api.CPeek, 0, 0)
	test := m.put(api.CIs, 2, 0)
	m.put(api.CTake, 0, 0)
	m.value(depth)
	over := m.put(api.CJump, 0, 0)
	m.here(test)
	m.put(api.CNext, again, 0)
	m.here(peek)
	first := m.set
	m.set = ahead
	m.value(depth)
	m.put(api.CWait, again, 0)
	m.value(depth)
	m.here(over)
	m.meet(first)
}

func (m *maker) loop(depth int) {
	again := len(m.fun.Code)
	m.value(depth)
	test := m.put(api.CBranch, 0, 0)
	m.put(api.CJump, again, 0)
	m.here(test)
	m.value(depth)
}

// end is a way that ends.
func (m *maker) end(depth int) {
	m.value(depth)
	test := m.put(api.CBranch, 0, 0)
	ahead := slices.Clone(m.set)
	m.value(depth)
	m.put(api.CRaise, m.r.Intn(3), 0)
	m.here(test)
	m.set = ahead
	m.value(depth)
}

// dead is what nobody reaches.
func (m *maker) dead(depth int) {
	over := m.put(api.CJump, 0, 0)
	for range m.r.Intn(3) {
		m.put([]api.Op{api.CPop, api.CDup, api.CReturn, api.CDone, api.CJump, api.CTry, api.CSend, api.CTake, api.CTail, api.CSame}[m.r.Intn(10)], 0, 0)
	}
	m.here(over)
	m.value(depth)
}

// change is a program with something changed: it may be well formed no more.
func (m *maker) change(c api.Code) {
	mod := &c.Mods[m.r.Intn(len(c.Mods))]
	f := &mod.Funs[m.r.Intn(len(mod.Funs))]
	i := m.r.Intn(max(len(f.Code), 1))
	if len(f.Code) == 0 {
		f.Code = m.junk(3)
	}
	in := &f.Code[i]
	step := []int{-1, 1, -2, 2, 5}[m.r.Intn(5)]
	switch m.r.Intn(12) {
	case 0, 1:
		in.A += step
	case 2:
		in.B += step
	case 3:
		in.A = m.r.Intn(len(f.Code))
	case 4:
		in.Op = api.Op(m.r.Intn(31))
	case 5:
		*in = m.junk(len(f.Code))[0]
	case 6:
		f.Code = slices.Delete(f.Code, i, i+1)
	case 7:
		f.Code = slices.Insert(f.Code, i, m.junk(len(f.Code))[0])
	case 8:
		k := m.r.Intn(len(f.Code))
		f.Code[i], f.Code[k] = f.Code[k], f.Code[i]
	case 9:
		if at := slices.IndexFunc(f.Code, func(in api.Insn) bool { return in.Op == api.CStore }); at >= 0 {
			f.Code[at] = api.Insn{Op: api.CPop}
		}
	case 10:
		f.Locals += step
	case 11:
		m.rename(mod, f)
	}
}

// rename changes what a module or a function is called, takes or exports.
func (m *maker) rename(mod *api.Mod, f *api.Fun) {
	switch m.r.Intn(5) {
	case 0:
		mod.Name = []string{"m0", "m1", "\xff", ""}[m.r.Intn(4)]
	case 1:
		f.Name = []string{"f0", "f1", "\xff", ""}[m.r.Intn(4)]
	case 2:
		f.Arity += m.r.Intn(5) - 2
	case 3:
		mod.Exports = append(mod.Exports, m.r.Intn(4)-1)
	case 4:
		f.Code = nil
	}
}

// junk is some instructions that may be anything, most of them of right forms, in a function of so many.
func (m *maker) junk(n int) []api.Insn {
	var l []api.Insn
	for range m.r.Intn(6) + 1 {
		in := api.Insn{Op: api.Op(m.r.Intn(29) + 1)}
		if chapter[in.Op-1].a != "-" {
			in.A = m.r.Intn(max(n, 1))
		}
		switch chapter[in.Op-1].a {
		case "pair":
			in.A = 1
		case "some":
			in.A++
		case "three", "fun":
			in.A = m.r.Intn(2)
		}
		switch chapter[in.Op-1].b {
		case "two", "args":
			in.B = m.r.Intn(2)
		case "insn":
			in.B = m.r.Intn(max(n, 1))
		}
		l = append(l, in)
	}
	return l
}
