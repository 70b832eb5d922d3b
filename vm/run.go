package vm

import (
	"heddle/api"
	"heddle/term"
)

// run is one of a process, till there is an event: as long as that has no Kind, it goes on.
type run struct {
	*VM
	budget     int
	event      api.Event
	bifs, acts []api.Bif // once they were asked for
}

func (r *run) stopped() bool { return r.event.Kind != 0 }

// awake looks whether that has come for which a process waits.
func (r *run) awake() {
	if r.state != api.Waiting {
		return
	}
	r.state = api.Ready
	f := r.top()
	if r.box.Cursor() < r.box.Len() {
		f.at = f.fun.Code[f.at-1].A // the instruction ahead is the CWait
		return
	}
	if over, _ := r.box.Expire(r.now); !over {
		r.wait()
	}
}

// goOn does instructions, till there is an event or something is raised.
func (r *run) goOn() {
	defer func() {
		switch x := recover().(type) {
		case nil:
		case raised:
			r.handle(x)
		default:
			panic(x)
		}
	}()
	r.raiseWanted()
	do := instructions()
	for !r.stopped() {
		f := r.top()
		if in := f.fun.Code[f.at]; r.mayGoOn(in, f.at) {
			f.at++
			do[in.Op](r, f, in)
		}
	}
}

// mayGoOn counts an instruction that is counted; the run stops, if none more may be.
func (r *run) mayGoOn(in api.Insn, at int) bool {
	if !isCounted(in, at) {
		return true
	}
	if r.event.Used == r.budget {
		r.event.Kind = api.EvYield
		return false
	}
	r.event.Used++
	return true
}

// isCounted: whoever goes round does one of these each time, so that a run ends.
func isCounted(in api.Insn, at int) bool {
	switch in.Op {
	case api.CCall, api.CTail, api.CRemote, api.CLeave, api.CSend, api.CAct:
		return true
	case api.CJump, api.CBranch, api.CCons, api.CSame, api.CPeek, api.CNext, api.CTry, api.CGuard:
		return in.A <= at
	case api.CIs, api.CParts:
		return in.B <= at
	}
	return false
}

// raised is what a process raises: with it a run panics.
type raised struct {
	class  string
	reason *api.Term
}

func isClass(class string) bool { return class == "error" || class == "exit" || class == "throw" }

// fail raises an error.
func fail(reason string) { panic(raised{"error", symbol(reason)}) }

func (r *run) raiseWanted() {
	if x := r.wanted; x != nil {
		r.wanted = nil
		panic(*x)
	}
}

// handle goes on at the last handler; without one the process ends.
func (r *run) handle(x raised) {
	last := len(r.handlers) - 1
	if last < 0 {
		r.end(x.last())
		return
	}
	h := r.handlers[last]
	r.handlers = r.handlers[:last]
	r.keep(h.frames)
	f := r.top()
	f.height = h.height
	if !h.isGuard {
		f.push(x.reason, symbol(x.class))
	}
	f.at = h.at
}

// last is the reason with which a process ends where nothing takes what was raised.
func (x raised) last() *api.Term {
	if x.class != "throw" {
		return x.reason
	}
	reason := &api.Term{Kind: api.KTuple, Args: []api.Term{*symbol("nocatch"), *x.reason}}
	if term.Check(*reason) != nil {
		return symbol("system_limit")
	}
	return reason
}

// end is the last event: nothing is left of the process but its messages.
func (r *run) end(reason *api.Term) {
	r.event.Kind, r.event.Reason = api.EvEnd, term.Copy(*reason)
	r.state, r.life = api.Ended, life{}
}

func (r *run) wait() {
	r.event.Kind = api.EvWait
	r.event.Until, r.event.Timed = r.box.Deadline()
	r.state = api.Waiting
}

// ask: the node must know or do this.
func (r *run) ask(name string, args []api.Term) {
	r.event.Kind, r.event.Name, r.event.Args = api.EvAct, name, copyTerms(args)
	r.state = api.Asked
}
