package link

import (
	"heddle/api"
	"heddle/term"
)

// An effect is new memory, its reason too: many may tell one reason.

func exit(to, from pid, reason api.Term) api.Effect {
	return api.Effect{Kind: api.FExit, To: to.term(), From: from.term(), Reason: term.Copy(reason)}
}

func down(to pid, by ref, w whom, reason api.Term) api.Effect {
	return api.Effect{Kind: api.FDown, To: to.term(), Ref: by.term(), What: w.what(), Reason: term.Copy(reason)}
}

func signal(node string, s api.Sig) api.Effect {
	return api.Effect{Kind: api.FSignal, Node: node, Sig: s}
}

// exitSignal tells another node's process that one that it is linked with has ended.
func exitSignal(from, to pid, reason api.Term) api.Effect {
	return signal(to.node, api.Sig{Kind: api.GExit, From: from.term(), To: to.term(), Reason: term.Copy(reason)})
}

// linkSignal tells of a link that begins, or, with a number, of one that has ended.
func linkSignal(kind api.SigKind, id uint32, from, to pid) api.Effect {
	return signal(to.node, api.Sig{Kind: kind, ID: id, From: from.term(), To: to.term()})
}

// watchSignal tells another node that a process watches somebody there, or does so no more.
func watchSignal(kind api.SigKind, from pid, by ref, w whom) api.Effect {
	s := api.Sig{Kind: kind, From: from.term(), Ref: by.term()}
	s.To, s.Name = w.told()
	return signal(w.home(), s)
}

// endSignal tells another node's process that whom it watches has ended.
func endSignal(w whom, to watch, reason api.Term) api.Effect {
	s := api.Sig{Kind: api.GMonitorExit, To: to.who.term(), Ref: to.by.term(), Reason: term.Copy(reason)}
	s.From, s.Name = w.told()
	return signal(to.who.node, s)
}

func noproc() api.Term { return symbol("noproc") }

func noconnection() api.Term { return symbol("noconnection") }
