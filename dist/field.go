package dist

import "heddle/api"

// field is what stands at a place of a control message.
type field int

const (
	fieldFrom field = iota
	fieldTo
	fieldName
	fieldRef
	fieldID
	fieldReason
	fieldWatched // whom a monitor watches: To, or a Name
	fieldEnded   // of whom a monitor tells: From, or a Name
	fieldSpawned // the Reason of a spawn's reply: a pid, or an atom
	fieldCall    // Mod, Fun, and how many Args there are
	fieldBlank   // the empty atom
	fieldLeader  // From, told once more; of others anything
	fieldOptions // the empty list; of others any that is proper
	fieldFlags   // 0; of others any int
)

// term is what stands there of a signal. It shares the signal's memory, and may be no term.
func (f field) term(s api.Sig) api.Term {
	switch f {
	case fieldWatched:
		if !isPid(s.To) {
			return symbol(s.Name)
		}
		fallthrough
	case fieldTo:
		return s.To
	case fieldEnded:
		if !isPid(s.From) {
			return symbol(s.Name)
		}
		fallthrough
	case fieldFrom, fieldLeader:
		return s.From
	case fieldName:
		return symbol(s.Name)
	case fieldRef:
		return s.Ref
	case fieldID:
		return number(int64(s.ID))
	case fieldReason, fieldSpawned:
		return s.Reason
	case fieldCall:
		return tuple(symbol(s.Mod), symbol(s.Fun), number(int64(len(s.Args))))
	case fieldOptions:
		return list(nil)
	case fieldFlags:
		return number(0)
	}
	return symbol("")
}

// fits tells whether a term may stand there.
func (f field) fits(t api.Term) bool {
	switch f {
	case fieldWatched, fieldEnded, fieldSpawned:
		if t.Kind == api.KAtom {
			return true
		}
		fallthrough
	case fieldFrom, fieldTo:
		return t.Kind == api.KPid
	case fieldName:
		return t.Kind == api.KAtom
	case fieldBlank:
		return t.Kind == api.KAtom && t.Text == ""
	case fieldRef:
		return t.Kind == api.KRef
	case fieldID:
		return isNumber(t, 1, api.MaxWire)
	case fieldFlags:
		return t.Kind == api.KInt
	case fieldCall:
		return isCall(t)
	case fieldOptions:
		_, proper := split(t)
		return proper
	}
	// A reason, and a leader, may be any term.
	return true
}

// read puts what stands there, and may, into a signal.
func (f field) read(s *api.Sig, t api.Term) {
	switch f {
	case fieldWatched:
		if t.Kind == api.KAtom {
			s.Name = t.Text
			return
		}
		fallthrough
	case fieldTo:
		s.To = t
	case fieldEnded:
		if t.Kind == api.KAtom {
			s.Name = t.Text
			return
		}
		fallthrough
	case fieldFrom:
		s.From = t
	case fieldName:
		s.Name = t.Text
	case fieldRef:
		s.Ref = t
	case fieldID:
		s.ID = uint32(t.Int)
	case fieldReason, fieldSpawned:
		s.Reason = t
	case fieldCall:
		s.Mod, s.Fun = t.Args[0].Text, t.Args[1].Text
		// They come with the message: till then their places stand for them.
		s.Args = make([]api.Term, t.Args[2].Int)
	}
}

// isCall tells whether a term names a function and how many arguments it has.
func isCall(t api.Term) bool {
	return t.Kind == api.KTuple && len(t.Args) == 3 &&
		t.Args[0].Kind == api.KAtom && t.Args[1].Kind == api.KAtom && isNumber(t.Args[2], 0, api.MaxArgs)
}
