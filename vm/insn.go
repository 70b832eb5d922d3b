package vm

import (
	"errors"

	"heddle/api"
	"heddle/bif"
	"heddle/code"
	"heddle/term"
)

// insn does an instruction of the uppermost frame, which goes on behind it unless it says otherwise.
type insn func(r *run, f *frame, in api.Insn)

// instructions are all, by their Op.
func instructions() [api.CWait + 1]insn {
	return [...]insn{
		api.CConst:  (*run).constant,
		api.CLoad:   (*run).load,
		api.CStore:  (*run).store,
		api.CPop:    (*run).forget,
		api.CDup:    (*run).double,
		api.CTuple:  (*run).tuple,
		api.CList:   (*run).list,
		api.CBif:    (*run).apply,
		api.CCall:   (*run).call,
		api.CTail:   (*run).tail,
		api.CRemote: (*run).remote,
		api.CLeave:  (*run).leave,
		api.CReturn: (*run).comeBack,
		api.CJump:   (*run).jump,
		api.CBranch: (*run).branch,
		api.CIs:     (*run).is,
		api.CParts:  (*run).parts,
		api.CCons:   (*run).cons,
		api.CSame:   (*run).same,
		api.CRaise:  (*run).raise,
		api.CTry:    (*run).try,
		api.CGuard:  (*run).guard,
		api.CDone:   (*run).done,
		api.CSend:   (*run).send,
		api.CAct:    (*run).act,
		api.CPeek:   (*run).peek,
		api.CNext:   (*run).next,
		api.CTake:   (*run).takeOut,
		api.CWait:   (*run).waitFor,
	}
}

func (r *run) constant(f *frame, in api.Insn) { f.push(&r.code.Consts[in.A]) }

func (r *run) load(f *frame, in api.Insn) { f.push(f.locals[in.A]) }

func (r *run) store(f *frame, in api.Insn) { f.locals[in.A] = f.pop() }

func (r *run) forget(f *frame, _ api.Insn) { f.pop() }

func (r *run) double(f *frame, _ api.Insn) { f.push(f.upper(1)...) }

func (r *run) tuple(f *frame, in api.Insn) {
	f.push(whole(api.Term{Kind: api.KTuple, Args: f.take(in.A)}))
}

func (r *run) list(f *frame, in api.Insn) {
	terms := f.take(in.A + 1)
	if tail := terms[in.A]; tail.Kind == api.KList {
		terms = append(terms[:in.A], tail.Args...)
	}
	f.push(whole(api.Term{Kind: api.KList, Args: terms}))
}

// whole is what is made of terms, if it is one itself.
func whole(t api.Term) *api.Term {
	if term.Check(t) != nil {
		fail("system_limit")
	}
	return &t
}

func (r *run) apply(f *frame, in api.Insn) {
	if r.bifs == nil {
		r.bifs = bif.All()
	}
	b := r.bifs[in.A]
	answer, err := bif.Call(b.Name, f.take(b.Arity)...)
	var refusal *api.Fault
	if errors.As(err, &refusal) {
		reason, _ := bif.Reason(refusal)
		panic(raised{"error", &reason})
	}
	f.push(&answer)
}

func (r *run) send(f *frame, _ api.Insn) { r.ask("!", f.take(2)) }

func (r *run) act(f *frame, in api.Insn) {
	if r.acts == nil {
		r.acts = code.Acts()
	}
	a := r.acts[in.A]
	switch {
	case a.Kind != api.BKnown:
		r.ask(a.Name, f.take(a.Arity))
	case a.Name == "self":
		f.push(&r.who.Self)
	default:
		f.push(symbol(r.who.Node))
	}
}
