package vm_test

import (
	"math/rand"
	"testing"

	"heddle/api"
	"heddle/bif"
	"heddle/code"
)

// maker makes well formed programs by chance, instruction by instruction: it knows what stands on the stack at each of them, so that it may go on at any earlier one that is alike, or at a later one.
type maker struct {
	*rand.Rand
	consts int
	pairs  []int // constants that name functions
	bifs   []api.Bif
	acts   []api.Bif
	funs   []api.Fun // of the module
	f      *api.Fun
	places []place // of each instruction
	open   []opening
	place
	dead bool // nothing goes on here
}

// place is what is known where an instruction stands.
type place struct {
	height, handlers int
	set              uint // locals, by bits
}

// opening is an instruction that goes on elsewhere, one does not know yet where, in this state.
type opening struct {
	at int
	place
}

// makerOf is one of programs with some constants.
func makerOf(t testing.TB, r *rand.Rand) (*maker, []api.Term) {
	t.Helper()
	consts := []api.Term{}
	for _, text := range []string{"{m,f}", "{m,g}", "{m,h}", "{k,f}", "{k,g}", "{x,y}", "0", "1", "2", "5", "true", "false", "a", "infinity", "{}", "{a,1}", "[]", "[1,a]", "[1|a]", "{true,{a,1},[2]}", "<n@h.1.5.0>", "1099511627777"} {
		consts = append(consts, read(t, text))
	}
	return &maker{Rand: r, consts: len(consts), pairs: []int{0, 1, 2, 3, 4, 5}, bifs: bif.All(), acts: code.Acts()}, consts
}

// program is one of the modules m and k, with the functions f, g and h, of which not all are exported.
func (m *maker) program(consts []api.Term) api.Code {
	c := api.Code{Consts: consts}
	for i, name := range []string{"m", "k"} {
		mod := api.Mod{Name: name}
		for k, fun := range []string{"f", "g", "h", "f"} {
			arity := []int{0, 1, 2, 1}[k]
			mod.Funs = append(mod.Funs, api.Fun{Name: fun, Arity: arity, Locals: arity + m.Intn(3)})
			if k < 2 || m.Intn(2) == i {
				mod.Exports = append(mod.Exports, k)
			}
		}
		m.funs = mod.Funs
		for k := range mod.Funs {
			m.body(&mod.Funs[k], 5+m.Intn(30))
		}
		c.Mods = append(c.Mods, mod)
	}
	return c
}

// body is a function's code, of about so many instructions.
func (m *maker) body(f *api.Fun, length int) {
	m.f, m.places, m.open, m.dead = f, nil, nil, false
	m.place = place{set: 1<<f.Arity - 1}
	for len(f.Code) < length {
		if m.dead && !m.land() {
			return
		}
		m.join()
		m.any()
	}
	for !m.dead || m.land() {
		m.finish()
	}
}

// land goes on where something was left open.
func (m *maker) land() bool {
	if len(m.open) == 0 {
		return false
	}
	m.place, m.dead = m.open[m.Intn(len(m.open))].place, false
	m.join()
	return true
}

// join lets those that were left open in such a state go on here, or some of them: what is set behind is what is set on all ways.
func (m *maker) join() {
	keep := m.open[:0:0]
	for _, o := range m.open {
		if o.height != m.height || o.handlers != m.handlers || m.Intn(4) == 0 && !m.dead && len(m.open) > 1 && keep == nil {
			keep = append(keep, o)
			continue
		}
		m.set &= o.set
		m.aim(o.at, len(m.f.Code))
	}
	m.open = keep
}

// aim says where an instruction goes on.
func (m *maker) aim(at, to int) {
	in := &m.f.Code[at]
	if in.Op == api.CIs || in.Op == api.CParts {
		in.B = to
	} else {
		in.A = to
	}
}

// put puts an instruction, and says by how much the stack is higher behind it.
func (m *maker) put(op api.Op, a, b, higher int) {
	m.f.Code, m.places = append(m.f.Code, api.Insn{Op: op, A: a, B: b}), append(m.places, m.place)
	m.height += higher
}

// elsewhere: the last instruction goes on at another place, too, in that state: at an earlier one, or it is left open.
func (m *maker) elsewhere(state place) {
	at := len(m.f.Code) - 1
	if m.Intn(2) == 0 {
		for _, to := range m.Perm(len(m.places)) {
			p := m.places[to]
			if p.height == state.height && p.handlers == state.handlers && p.set&^state.set == 0 {
				m.aim(at, to)
				return
			}
		}
	}
	m.open = append(m.open, opening{at, state})
}

// finish ends a function.
func (m *maker) finish() {
	for m.handlers > 0 {
		m.put(api.CDone, 0, 0, 0)
		m.handlers--
	}
	for m.height > 1 {
		m.put(api.CPop, 0, 0, -1)
	}
	if m.height == 0 {
		m.constant()
	}
	op := []api.Op{api.CReturn, api.CReturn, api.CReturn, api.CRaise}[m.Intn(4)]
	a := 0
	if op == api.CRaise {
		a = m.Intn(3)
	}
	m.put(op, a, 0, -1)
	m.dead = true
}

func (m *maker) constant() { m.put(api.CConst, m.Intn(m.consts), 0, 1) }

// any puts some instruction that may stand here.
func (m *maker) any() {
	for before := len(m.f.Code); len(m.f.Code) == before; {
		switch n := m.Intn(20); {
		case m.height == 0 || n < 3 && m.height < 20:
			m.rise()
		case n < 8:
			m.reckon()
		case n < 11:
			m.call()
		case n < 15:
			m.choose()
		case n < 17:
			m.protect()
		default:
			m.receive()
		}
	}
}

// rise puts something on the stack, or a receive's instruction: what needs nothing.
func (m *maker) rise() {
	switch local := m.Intn(5); {
	case local < m.f.Locals && m.set>>local&1 == 1:
		m.put(api.CLoad, local, 0, 1)
	case m.Intn(5) == 0:
		m.receive()
	case m.Intn(5) == 0:
		m.protect()
	default:
		m.constant()
	}
}

func (m *maker) reckon() {
	switch m.Intn(6) {
	case 0:
		if m.f.Locals > 0 {
			local := m.Intn(m.f.Locals)
			m.put(api.CStore, local, 0, -1)
			m.set |= 1 << local
		}
	case 1:
		m.put(api.CPop, 0, 0, -1)
	case 2:
		m.put(api.CDup, 0, 0, 1)
	case 3:
		n := m.Intn(min(m.height, 3) + 1)
		m.put(api.CTuple, n, 0, 1-n)
	case 4:
		if n := m.Intn(2) + 1; n < m.height {
			m.put(api.CList, n, 0, -n)
		}
	case 5:
		if i := m.Intn(len(m.bifs)); m.bifs[i].Arity <= m.height {
			m.put(api.CBif, i, 0, 1-m.bifs[i].Arity)
		}
	}
}

func (m *maker) call() {
	switch n, k := m.Intn(10), m.Intn(len(m.funs)); {
	case n < 3 && m.funs[k].Arity <= m.height:
		m.put(api.CCall, k, 0, 1-m.funs[k].Arity)
	case n < 4 && m.funs[k].Arity <= m.height && m.handlers == 0:
		m.put(api.CTail, k, 0, 0)
		m.dead = true
	case n < 6 && k <= m.height:
		m.put(api.CRemote, m.pairs[m.Intn(len(m.pairs))], k, 1-k)
	case n < 7 && k <= m.height && m.handlers == 0:
		m.put(api.CLeave, m.pairs[m.Intn(len(m.pairs))], k, 0)
		m.dead = true
	case n < 8 && m.height >= 2:
		m.put(api.CSend, 0, 0, -1)
	default:
		if i := m.Intn(len(m.acts)); m.acts[i].Arity <= m.height {
			m.put(api.CAct, i, 0, 1-m.acts[i].Arity)
		}
	}
}

// choose puts an instruction that goes on in one of two ways.
func (m *maker) choose() {
	parts := 0
	switch m.Intn(7) {
	case 0:
		m.put(api.CBranch, 0, m.Intn(2), -1)
	case 1:
		m.put(api.CIs, m.Intn(m.consts), 0, -1)
	case 2:
		parts = m.Intn(4)
		m.put(api.CParts, parts, 0, -1)
	case 3:
		parts = 2
		m.put(api.CCons, 0, 0, -1)
	case 4:
		if m.height < 2 {
			return
		}
		m.put(api.CSame, 0, 0, -2)
	case 5:
		m.put(api.CJump, 0, 0, 0)
		m.dead = true
	case 6:
		if m.Intn(3) > 0 {
			return
		}
		m.put(api.CRaise, m.Intn(3), 0, -1)
		m.dead = true
		return
	}
	m.elsewhere(m.place)
	m.height += parts
}

func (m *maker) protect() {
	switch n := m.Intn(3); {
	case n == 0 && m.handlers > 0:
		m.put(api.CDone, 0, 0, 0)
		m.handlers--
	case n > 0 && m.handlers < 3:
		handler := m.place
		if n == 1 {
			handler.height += 2
		}
		m.put([]api.Op{0, api.CTry, api.CGuard}[n], 0, 0, 0)
		m.elsewhere(handler)
		m.handlers++
	}
}

func (m *maker) receive() {
	switch n := m.Intn(6); {
	case n < 2:
		m.put(api.CPeek, 0, 0, 0)
		m.elsewhere(m.place)
		m.height++
	case n == 2:
		m.put(api.CNext, 0, 0, 0)
		m.elsewhere(m.place)
		m.dead = true
	case n == 3:
		m.put(api.CTake, 0, 0, 0)
	case m.height > 0:
		m.put(api.CWait, 0, 0, -1)
		m.elsewhere(m.place)
	}
}

// someCode is a program of chance that is made by hand.
func someCode(t testing.TB, r *rand.Rand) api.Code {
	t.Helper()
	m, consts := makerOf(t, r)
	c := m.program(consts)
	if err := code.Check(c); err != nil {
		image, _ := code.Print(c)
		t.Fatalf("%v: %s\n%v", err, image, c.Mods)
	}
	return c
}

// Programs that are made by hand have all instructions, forward and backward.
func TestMaker(t *testing.T) {
	met := map[api.Op]int{}
	for seed := range int64(300) {
		for _, mod := range someCode(t, rand.New(rand.NewSource(seed))).Mods {
			for _, f := range mod.Funs {
				for _, in := range f.Code {
					met[in.Op]++
				}
			}
		}
	}
	for op := api.CConst; op <= api.CWait; op++ {
		if met[op] < 50 {
			t.Errorf("Op %d: %d times", op, met[op])
		}
	}
}
