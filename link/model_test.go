package link_test

import (
	"cmp"
	"slices"

	"heddle/api"
	"heddle/atom"
	"heddle/dist"
	"heddle/sample"
	"heddle/term"
)

// model is a table told once more: one list of all that is there, gone through each time.
type model struct {
	node     string
	creation uint32
	lived    []api.Term
	living   []api.Term
	facts    []fact
	numbered uint32
}

// fact is a link of owner with other; a monitor of owner, of whom; a watcher of owner, who is other, and as what; an unlink of other by owner.
type fact struct {
	kind  byte // l m w u
	owner api.Term
	other api.Term
	ref   api.Term
	whom  api.Term // a pid, or {Name, Node}
	id    uint32
}

func newModel(node string, creation uint32) *model { return &model{node: node, creation: creation} }

func has(all []api.Term, x api.Term) bool {
	return slices.ContainsFunc(all, func(y api.Term) bool { return sample.Same(x, y) })
}

func isKind(x api.Term, kind api.Kind) bool { return x.Kind == kind && term.Check(x) == nil }

func isPid(x api.Term) bool { return isKind(x, api.KPid) }

func isNode(s string) bool {
	_, _, err := atom.Node(s)
	return err == nil
}

func (m *model) lives(p api.Term) bool { return has(m.living, p) }

// the facts that fit: by refs, of one ref by the others.
func (m *model) the(kind byte, fits func(f fact) bool) []fact {
	var all []fact
	for _, f := range m.facts {
		if f.kind == kind && fits(f) {
			all = append(all, f)
		}
	}
	slices.SortStableFunc(all, func(a, b fact) int { return cmp.Or(term.Compare(a.ref, b.ref), term.Compare(a.other, b.other)) })
	return all
}

func (m *model) drop(kind byte, fits func(f fact) bool) {
	m.facts = slices.DeleteFunc(m.facts, func(f fact) bool { return f.kind == kind && fits(f) })
}

func of(owner api.Term) func(f fact) bool {
	return func(f fact) bool { return sample.Same(f.owner, owner) }
}

func between(owner, other api.Term) func(f fact) bool {
	return func(f fact) bool { return sample.Same(f.owner, owner) && sample.Same(f.other, other) }
}

func byRef(owner, ref api.Term) func(f fact) bool {
	return func(f fact) bool { return sample.Same(f.owner, owner) && sample.Same(f.ref, ref) }
}

func byRefOf(owner, ref, other api.Term) func(f fact) bool {
	return func(f fact) bool { return between(owner, other)(f) && byRef(owner, ref)(f) }
}

func homeOf(whom api.Term) string {
	if whom.Kind == api.KTuple {
		return whom.Args[1].Text
	}
	return whom.Text
}

func with(node string) func(f fact) bool {
	return func(f fact) bool {
		if f.kind == 'm' {
			return homeOf(f.whom) == node
		}
		return f.other.Text == node
	}
}

// namesIt puts a whom into a signal: as To or From, or as the Name.
func namesIt(s *api.Sig, place *api.Term, whom api.Term) {
	if whom.Kind == api.KTuple {
		s.Name = whom.Args[0].Text
	} else {
		*place = whom
	}
}

func exits(to, from api.Term, reason string) []api.Effect {
	return []api.Effect{{Kind: api.FExit, To: to, From: from, Reason: word(reason)}}
}

func downs(f fact, reason api.Term) api.Effect {
	return api.Effect{Kind: api.FDown, To: f.owner, Ref: f.ref, What: f.whom, Reason: reason}
}

func sends(node string, s api.Sig) []api.Effect {
	return []api.Effect{{Kind: api.FSignal, Node: node, Sig: s}}
}

// refuses is why a call is refused.
func (m *model) refuses(s step) []api.Fault {
	code := func(n api.Errno) []api.Fault { return []api.Fault{fault(n)} }
	mine := isPid(s.p) && s.p.Text == m.node && s.p.Creation == m.creation
	foreign := isNode(s.node) && s.node != m.node
	switch s.call {
	case "born":
		if !mine {
			return code(api.ErrArg)
		}
		if has(m.lived, s.p) {
			return code(api.ErrTwice)
		}
		return nil
	case "down":
		if !foreign {
			return code(api.ErrArg)
		}
		return nil
	case "take":
		if !foreign {
			return code(api.ErrArg)
		}
		if dist.Check(s.sig) != nil {
			return append(code(api.ErrArg), api.Fault{Layer: "dist", Code: api.ErrSig})
		}
		if !slices.Contains(takenKinds, s.sig.Kind) || s.q.Kind != 0 && !isPid(s.q) {
			return code(api.ErrArg)
		}
		return nil
	}
	if !m.lives(s.p) {
		return code(api.ErrTrace)
	}
	var wrong bool
	switch s.call {
	case "link", "unlink":
		wrong = !isPid(s.q)
	case "demonitor":
		wrong = !isKind(s.ref, api.KRef)
	case "end":
		wrong = term.Check(s.q) != nil
	case "monitor":
		wrong = !isKind(s.ref, api.KRef)
		if s.name == "" {
			wrong = wrong || !isPid(s.q)
		} else {
			wrong = wrong || !isNode(s.node) || term.Check(word(s.name)) != nil || s.q.Kind != 0 && !isPid(s.q)
		}
		if !wrong && len(m.the('m', byRef(s.p, s.ref))) > 0 {
			return code(api.ErrTwice)
		}
	}
	if wrong {
		return code(api.ErrArg)
	}
	return nil
}

// do is what a call tells; why it is refused, if it is.
func (m *model) do(s step) ([]api.Effect, []api.Fault) {
	if chain := m.refuses(s); chain != nil {
		return nil, chain
	}
	switch s.call {
	case "born":
		m.lived, m.living = append(m.lived, s.p), append(m.living, s.p)
		return nil, nil
	case "link":
		return m.link(s.p, s.q), nil
	case "unlink":
		return m.unlink(s.p, s.q), nil
	case "monitor":
		return m.monitor(s), nil
	case "demonitor":
		return m.demonitor(s.p, s.ref), nil
	case "end":
		return m.end(s.p, s.q), nil
	case "take":
		return m.take(s.node, s.sig, s.q), nil
	}
	return m.down(s.node), nil
}

func (m *model) link(p, q api.Term) []api.Effect {
	if sample.Same(p, q) || len(m.the('l', between(p, q))) > 0 {
		return nil
	}
	if m.lives(q) {
		m.facts = append(m.facts, fact{kind: 'l', owner: p, other: q}, fact{kind: 'l', owner: q, other: p})
		return nil
	}
	if q.Text == m.node {
		return exits(p, q, "noproc")
	}
	m.facts = append(m.facts, fact{kind: 'l', owner: p, other: q})
	return sends(q.Text, api.Sig{Kind: api.GLink, From: p, To: q})
}

func (m *model) unlink(p, q api.Term) []api.Effect {
	if len(m.the('l', between(p, q))) == 0 {
		return nil
	}
	m.drop('l', between(p, q))
	m.drop('l', between(q, p))
	if q.Text == m.node {
		return nil
	}
	m.numbered++
	m.facts = append(m.facts, fact{kind: 'u', owner: p, other: q, id: m.numbered})
	return sends(q.Text, api.Sig{Kind: api.GUnlink, ID: m.numbered, From: p, To: q})
}

func (m *model) monitor(s step) []api.Effect {
	f := fact{kind: 'm', owner: s.p, ref: s.ref, whom: s.q}
	if s.name != "" {
		f.whom = tuple(word(s.name), word(s.node))
	}
	if homeOf(f.whom) != m.node {
		m.facts = append(m.facts, f)
		g := api.Sig{Kind: api.GMonitor, From: s.p, Ref: s.ref}
		namesIt(&g, &g.To, f.whom)
		return sends(homeOf(f.whom), g)
	}
	if !m.lives(s.q) {
		return []api.Effect{downs(f, word("noproc"))}
	}
	m.facts = append(m.facts, f, fact{kind: 'w', owner: s.q, other: s.p, ref: s.ref, whom: f.whom})
	return nil
}

func (m *model) demonitor(p, ref api.Term) []api.Effect {
	var all []api.Effect
	for _, f := range m.the('m', byRef(p, ref)) {
		m.drop('m', byRef(p, ref))
		if homeOf(f.whom) == m.node {
			m.drop('w', func(w fact) bool { return sample.Same(w.other, p) && sample.Same(w.ref, ref) })
			continue
		}
		g := api.Sig{Kind: api.GDemonitor, From: p, Ref: ref}
		namesIt(&g, &g.To, f.whom)
		all = append(all, sends(homeOf(f.whom), g)...)
	}
	return all
}

func (m *model) end(p, reason api.Term) []api.Effect {
	var all []api.Effect
	for _, f := range m.the('l', of(p)) {
		if m.lives(f.other) {
			m.drop('l', between(f.other, p))
			all = append(all, api.Effect{Kind: api.FExit, To: f.other, From: p, Reason: reason})
		} else {
			all = append(all, sends(f.other.Text, api.Sig{Kind: api.GExit, From: p, To: f.other, Reason: reason})...)
		}
	}
	for _, f := range m.the('w', of(p)) {
		switch {
		case sample.Same(f.other, p):
		case m.lives(f.other):
			m.drop('m', byRef(f.other, f.ref))
			all = append(all, downs(fact{owner: f.other, ref: f.ref, whom: f.whom}, reason))
		default:
			g := api.Sig{Kind: api.GMonitorExit, To: f.other, Ref: f.ref, Reason: reason}
			namesIt(&g, &g.From, f.whom)
			all = append(all, sends(f.other.Text, g)...)
		}
	}
	for _, f := range m.the('m', of(p)) {
		all = append(all, m.demonitor(p, f.ref)...)
	}
	m.facts = slices.DeleteFunc(m.facts, of(p))
	m.living = slices.DeleteFunc(m.living, func(q api.Term) bool { return sample.Same(p, q) })
	return all
}

func (m *model) take(from string, s api.Sig, named api.Term) []api.Effect {
	if isPid(s.From) && s.From.Text != from {
		return nil
	}
	p, whom := s.To, s.To
	if (s.Kind == api.GMonitor || s.Kind == api.GDemonitor) && !isPid(s.To) {
		p, whom = named, tuple(word(s.Name), word(m.node))
	}
	alive := m.lives(p)
	waits := len(m.the('u', between(p, s.From))) > 0
	linked := len(m.the('l', between(p, s.From))) > 0
	switch s.Kind {
	case api.GLink:
		if alive && !waits && !linked {
			m.facts = append(m.facts, fact{kind: 'l', owner: p, other: s.From})
		}
		if !alive {
			return sends(from, api.Sig{Kind: api.GExit, From: p, To: s.From, Reason: word("noproc")})
		}
	case api.GUnlink:
		m.drop('l', between(p, s.From))
		return sends(from, api.Sig{Kind: api.GUnlinkAck, ID: s.ID, From: p, To: s.From})
	case api.GUnlinkAck:
		m.drop('u', func(f fact) bool { return between(p, s.From)(f) && f.id == s.ID })
	case api.GExit:
		if linked && !waits {
			m.drop('l', between(p, s.From))
			return []api.Effect{{Kind: api.FExit, To: p, From: s.From, Reason: s.Reason}}
		}
	case api.GMonitor:
		if !alive {
			g := api.Sig{Kind: api.GMonitorExit, To: s.From, Ref: s.Ref, Reason: word("noproc")}
			namesIt(&g, &g.From, whom)
			return sends(from, g)
		}
		if len(m.the('w', byRefOf(p, s.Ref, s.From))) == 0 {
			m.facts = append(m.facts, fact{kind: 'w', owner: p, other: s.From, ref: s.Ref, whom: whom})
		}
	case api.GDemonitor:
		m.drop('w', byRefOf(p, s.Ref, s.From))
	case api.GMonitorExit:
		whom := s.From
		if !isPid(whom) {
			whom = tuple(word(s.Name), word(from))
		}
		for _, f := range m.the('m', byRef(p, s.Ref)) {
			if sample.Same(f.whom, whom) {
				m.drop('m', byRef(p, s.Ref))
				return []api.Effect{downs(f, s.Reason)}
			}
		}
	}
	return nil
}

func (m *model) down(node string) []api.Effect {
	var all []api.Effect
	for _, kind := range []byte{'l', 'm'} {
		for _, p := range slices.SortedFunc(slices.Values(m.living), term.Compare) {
			for _, f := range m.the(kind, of(p)) {
				switch {
				case !with(node)(f):
				case kind == 'l':
					all = append(all, exits(p, f.other, "noconnection")...)
				default:
					all = append(all, downs(f, word("noconnection")))
				}
			}
		}
	}
	m.facts = slices.DeleteFunc(m.facts, with(node))
	return all
}

// told is what the model tells of a process' links, monitors and watchers.
func (m *model) told(p api.Term) [3][]api.Term {
	var all [3][]api.Term
	for _, f := range m.the('l', of(p)) {
		all[0] = append(all[0], f.other)
	}
	for _, f := range m.the('m', of(p)) {
		all[1] = append(all[1], f.ref)
	}
	for _, f := range m.the('w', of(p)) {
		all[2] = append(all[2], f.ref)
	}
	return all
}

func (m *model) halves(node string) int {
	n := 0
	for _, f := range m.facts {
		if node != m.node && with(node)(f) {
			n++
		}
	}
	return n
}
