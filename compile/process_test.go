package compile_test

import (
	"heddle/api"
	"heddle/vm"
)

// byCode is a process of a program's code that calls an exported function.
func byCode(c api.Code, mod, fun string, args []api.Term) func(o *outside) api.Term {
	return func(o *outside) api.Term {
		v, err := vm.New(c, mod, fun, args, who())
		if err != nil {
			panic(err)
		}
		return o.run(v)
	}
}

// run is the reason with which a process ends. It stops ahead of all that is counted, as far as it can.
func (o *outside) run(v *vm.VM) api.Term {
	for {
		event := o.slice(v)
		switch event.Kind {
		case api.EvEnd:
			return event.Reason
		case api.EvYield:
			o.pause()
		case api.EvWait:
			o.box.timed, o.box.deadline = event.Timed, event.Until
			o.wait()
		case api.EvAct:
			must(o.answer(v, event))
		}
	}
}

// slice is the next event, behind all messages that have come.
func (o *outside) slice(v *vm.VM) api.Event {
	for _, t := range o.box.all {
		must(v.Put(t))
	}
	o.box.all = nil
	event, err := v.Run(1, o.clock)
	must(err)
	o.counted += event.Used
	o.deepest = max(o.deepest, v.State().Frames)
	return event
}

func (o *outside) answer(v *vm.VM, event api.Event) error {
	class, t := o.act(event.Name, event.Args)
	if class != "" {
		return v.Raise(class, t)
	}
	return v.Resume(t)
}

func must(err error) {
	if err != nil {
		panic(err)
	}
}

// isCounted tells which instructions are, by chapter 18; CWait never is.
func isCounted(in api.Insn, at int) bool {
	switch in.Op {
	case api.CCall, api.CTail, api.CRemote, api.CLeave, api.CSend, api.CAct:
		return true
	case api.CJump, api.CBranch, api.CCons, api.CSame, api.CPeek, api.CNext, api.CTry, api.CGuard:
		return in.A <= at
	case api.CIs, api.CParts:
		return in.B <= at
	}
	return false
}
