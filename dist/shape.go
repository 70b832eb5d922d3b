package dist

import (
	"slices"

	"heddle/api"
)

// shape is what a kind of signal is: what stands behind the kind's number in its control message, and what stands behind that.
type shape struct {
	fields []field
	behind message
}

// shapeOf is a kind's shape, and whether there is such a kind.
func shapeOf(k api.SigKind) (shape, bool) {
	var ahead []field
	switch k {
	case api.GUnlink, api.GUnlinkAck:
		ahead = []field{fieldID}
		fallthrough
	case api.GLink:
		return shape{fields: append(ahead, fieldFrom, fieldTo)}, true
	case api.GExit, api.GExit2:
		return shape{fields: []field{fieldFrom, fieldTo, fieldReason}}, true
	case api.GSend:
		return shape{fields: []field{fieldBlank, fieldTo}, behind: oneTerm}, true
	case api.GRegSend:
		return shape{fields: []field{fieldFrom, fieldBlank, fieldName}, behind: oneTerm}, true
	case api.GMonitor, api.GDemonitor:
		return shape{fields: []field{fieldFrom, fieldWatched, fieldRef}}, true
	case api.GMonitorExit:
		return shape{fields: []field{fieldEnded, fieldTo, fieldRef, fieldReason}}, true
	case api.GSpawn:
		return shape{fields: []field{fieldRef, fieldFrom, fieldLeader, fieldCall, fieldOptions}, behind: allArgs}, true
	case api.GSpawnReply:
		return shape{fields: []field{fieldRef, fieldTo, fieldFlags, fieldSpawned}}, true
	}
	return shape{}, false
}

// fits tells whether a signal has what its kind names. The message's terms are last: how many they may be is known by then.
func (x shape) fits(s api.Sig) bool {
	for _, f := range x.fields {
		if t := f.term(s); !isTerm(t) || !f.fits(t) {
			return false
		}
	}
	return !slices.ContainsFunc(x.behind.terms(s), isNoTerm)
}

// elements is the terms of a signal's control message. They share the signal's memory.
func (x shape) elements(s api.Sig) []api.Term {
	terms := []api.Term{number(int64(s.Kind))}
	for _, f := range x.fields {
		terms = append(terms, f.term(s))
	}
	return terms
}

// read puts what stands behind the kind's number into a signal, and tells whether that may stand there.
func (x shape) read(s *api.Sig, terms []api.Term) bool {
	if len(terms) != len(x.fields) {
		return false
	}
	for i, f := range x.fields {
		if !f.fits(terms[i]) {
			return false
		}
		f.read(s, terms[i])
	}
	return true
}

// message is what stands behind a control message.
type message int

const (
	noMessage message = iota
	oneTerm           // Msg
	allArgs           // the list of Args
)

// terms is those of a signal that are told in its message: the message itself may be too great to be one.
func (m message) terms(s api.Sig) []api.Term {
	switch m {
	case oneTerm:
		return []api.Term{s.Msg}
	case allArgs:
		return s.Args
	}
	return nil
}

// term is a signal's message, where there is one.
func (m message) term(s api.Sig) api.Term {
	if m == allArgs {
		return list(s.Args)
	}
	return s.Msg
}

// read puts a message into a signal, and tells whether it may stand there. Of arguments the control message has told how many they are.
func (m message) read(s *api.Sig, t api.Term) bool {
	if m == oneTerm {
		s.Msg = t
		return true
	}
	args, proper := split(t)
	if !proper || len(args) != len(s.Args) {
		return false
	}
	s.Args = args
	return true
}
