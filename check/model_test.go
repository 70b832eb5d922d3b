package check_test

import (
	"slices"
	"strconv"

	"heddle/api"
)

// fault is a rule that is broken, and where.
type fault struct {
	code api.Errno
	at   int
}

// ways are the ways by which a place is met: of each, which slots' names are bound on it, a bit each.
type ways map[uint64]bool

// model goes over a program as the chapter says it; but it knows nothing of what is unsafe: it follows all ways at once, of a try's body those from each place in it. Faults do not end it.
type model struct {
	faults    []fault          // in the order in which they are met
	seen      map[int]api.Seen // by places; of a call of a function Slot is the function's place
	functions map[string]*tree // of the module at hand
	names     []string         // of the scope at hand, by slots
	now       ways
	trail     ways // all that were ever now since the last try began
}

// modelOf is what the model gets to know of a program.
func modelOf(p *tree) *model {
	m := &model{seen: map[int]api.Seen{}}
	met := map[string]bool{"erlang": true}
	for _, module := range p.kids {
		m.must(!met[module.Text], module, api.ErrModule)
		met[module.Text] = true
	}
	for _, module := range p.kids {
		m.module(module)
	}
	return m
}

func (m *model) must(holds bool, n *tree, code api.Errno) {
	if !holds {
		m.faults = append(m.faults, fault{code, n.At})
	}
}

func named(name string, arity int) string { return name + "/" + strconv.Itoa(arity) }

func (m *model) module(n *tree) {
	m.functions = map[string]*tree{}
	for _, form := range slices.Backward(n.kids) {
		if form.Kind == api.NFunction {
			m.functions[named(form.Text, int(form.Int))] = form
		}
	}
	for _, form := range n.kids {
		first := m.functions[named(form.Text, int(form.Int))]
		if form.Kind == api.NExport {
			m.must(first != nil, form, api.ErrExport)
			continue
		}
		m.must(first == form, form, api.ErrTwice)
		m.must(form.Int <= 255, form, api.ErrArity)
		most := 0
		for _, clause := range form.kids {
			m.must(clause.Text == form.Text && len(clause.kids[0].kids) == int(form.Int), clause, api.ErrClause)
			m.names, m.now, m.trail = nil, ways{0: true}, ways{}
			m.all(clause.kids)
			m.seen[clause.At] = api.Seen{Slot: len(m.names)}
			most = max(most, len(m.names))
		}
		m.seen[form.At] = api.Seen{Slot: most}
	}
}

// stands tells how a name stands, and its slot.
func (m *model) stands(name string) (int, stand) {
	slot := slices.Index(m.names, name)
	if slot < 0 {
		return 0, unbound
	}
	var with, without bool
	for way := range m.now {
		if way>>slot&1 == 1 {
			with = true
		} else {
			without = true
		}
	}
	switch {
	case with && without:
		return slot, unsafe
	case with:
		return slot, bound
	}
	return slot, unbound
}

// meet goes on by some ways.
func (m *model) meet(some ways) {
	m.now = some
	for way := range some {
		m.trail[way] = true
	}
}

// together are the ways of both.
func together(a, b ways) ways {
	both := ways{}
	for way := range a {
		both[way] = true
	}
	for way := range b {
		both[way] = true
	}
	return both
}

func (m *model) all(l []*tree) {
	for _, n := range l {
		m.step(n)
	}
}

// either goes over each with what was bound ahead of all.
func (m *model) either(l []*tree) {
	ahead, behind := m.now, ways{}
	for _, n := range l {
		m.meet(ahead)
		m.step(n)
		behind = together(behind, m.now)
	}
	m.meet(behind)
}

func (m *model) step(n *tree) {
	switch n.Kind {
	case api.EVar:
		m.read(n)
	case api.EMatch:
		m.step(n.kids[1])
		m.pattern(n.kids[0])
	case api.ECase:
		m.step(n.kids[0])
		m.either(n.kids[1:])
	case api.EReceive:
		m.either(n.kids)
	case api.EAndAlso, api.EOrElse:
		m.step(n.kids[0])
		ahead := m.now
		m.step(n.kids[1])
		m.meet(together(ahead, m.now))
	case api.ETry:
		about := m.trail
		m.trail = ways{}
		m.meet(m.now)
		m.step(n.kids[0])
		behind, raised := m.now, m.trail
		m.trail = together(about, raised)
		m.now = raised
		m.either(n.kids[1:])
		m.meet(together(behind, m.now))
	case api.ECall:
		m.call(n)
		m.all(n.kids)
	case api.NClause:
		m.pattern(n.kids[0])
		m.all(n.kids[1:])
	case api.NArgs:
		m.pattern(n)
	case api.NGuard:
		m.guard(n)
	default:
		m.all(n.kids)
	}
}

func (m *model) read(n *tree) {
	slot, how := m.stands(n.Text)
	m.must(how == bound, n, how.read())
	m.seen[n.At] = api.Seen{Role: api.RUse, Slot: slot}
}

// called is what a call is of; nothing, if it is not there.
func (m *model) called(n *tree) api.Seen {
	name := named(n.Text, len(n.kids))
	builtIn := slices.IndexFunc(api.Bifs(), func(b api.Bif) bool { return named(b.Name, b.Arity) == name })
	switch {
	case n.Mod == "" && m.functions[name] != nil:
		return api.Seen{Role: api.RLocal, Slot: m.functions[name].At}
	case n.Mod != "" && n.Mod != "erlang":
		return api.Seen{Role: api.RRemote}
	case builtIn >= 0:
		return api.Seen{Role: api.RBif, Slot: builtIn}
	}
	return api.Seen{}
}

func (m *model) call(n *tree) {
	m.must(len(n.kids) <= 255, n, api.ErrArity)
	m.seen[n.At] = m.called(n)
	m.must(m.seen[n.At].Role != api.RNone, n, api.ErrUnknown)
}

func (m *model) pattern(n *tree) {
	switch {
	case n.Kind == api.EVar && n.Text == "_":
		m.seen[n.At] = api.Seen{Role: api.RAny}
	case n.Kind == api.EVar:
		slot, how := m.stands(n.Text)
		m.must(how != unsafe, n, api.ErrUnsafe)
		m.seen[n.At] = api.Seen{Role: api.RTest, Slot: slot}
		if how == unbound {
			m.seen[n.At] = api.Seen{Role: api.RBind, Slot: m.bind(n.Text)}
		}
	case n.Kind == api.EUnary:
		m.must(n.Text != "not" && n.kids[0].Kind == api.EInt, n, api.ErrPattern)
	case slices.Contains([]api.NodeKind{api.EInt, api.EAtom, api.ENil, api.ETuple, api.EList, api.EMatch, api.NArgs}, n.Kind):
		for _, kid := range n.kids {
			m.pattern(kid)
		}
	default:
		m.must(false, n, api.ErrPattern)
	}
}

// bind binds a name on all ways, and tells its slot.
func (m *model) bind(name string) int {
	if !slices.Contains(m.names, name) {
		m.names = append(m.names, name)
	}
	slot := slices.Index(m.names, name)
	behind := ways{}
	for way := range m.now {
		behind[way|1<<slot] = true
	}
	m.meet(behind)
	return slot
}

func (m *model) guard(n *tree) {
	switch {
	case n.Kind == api.EVar:
		m.read(n)
		return
	case n.Kind == api.ECall:
		called := m.called(n)
		m.must(called.Role == api.RBif && api.Bifs()[called.Slot].Guard, n, api.ErrGuard)
		m.seen[n.At] = called
	case n.Text == "++" && n.Kind == api.EBinary, n.Text == "--" && n.Kind == api.EBinary:
		m.must(false, n, api.ErrGuard)
	case !slices.Contains([]api.NodeKind{api.EInt, api.EAtom, api.ENil, api.ETuple, api.EList, api.EUnary, api.EBinary, api.EAndAlso, api.EOrElse, api.NGuard, api.NConj}, n.Kind):
		m.must(false, n, api.ErrGuard)
	}
	for _, kid := range n.kids {
		m.guard(kid)
	}
}
