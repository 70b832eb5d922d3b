package vm

import (
	"errors"
	"slices"

	"heddle/api"
	"heddle/code"
	"heddle/term"
)

const layer = "vm"

func refuse(at int, code api.Errno) error { return &api.Fault{Layer: layer, At: at, Code: code} }

// faultOf is the fault that a layer below tells; nil of none.
func faultOf(err error) *api.Fault {
	var fault *api.Fault
	errors.As(err, &fault)
	return fault
}

// wrap tells a fault of a layer below at a place of this one; nil of none.
func wrap(at int, under *api.Fault) error {
	if under == nil {
		return nil
	}
	return &api.Fault{Layer: layer, At: at, Code: under.Code, Under: under}
}

func checkTerm(at int, t api.Term) error { return wrap(at, faultOf(term.Check(t))) }

// checkGiven refuses what no process is made of.
func checkGiven(c api.Code, args []api.Term, who api.Who) error {
	if fault := faultOf(code.Check(c)); fault != nil {
		return wrap(fault.At, fault)
	}
	if len(args) > api.MaxArgs {
		return refuse(0, api.ErrArity)
	}
	for place, t := range args {
		if err := checkTerm(place, t); err != nil {
			return err
		}
	}
	if err := checkTerm(0, who.Self); err != nil {
		return err
	}
	if who.Self.Kind != api.KPid {
		return refuse(0, api.ErrArg)
	}
	return checkName(who)
}

// checkName refuses what is no node's name. This layer does not lean on package atom, but package term does: of the pid with that name in the place of its own nothing else can be wrong, and the fault of package atom lies under term's.
func checkName(who api.Who) error {
	who.Self.Text = who.Node
	fault := faultOf(term.Check(who.Self))
	if fault == nil {
		return nil
	}
	return wrap(0, faultOf(fault.Under))
}

// checkRun refuses a run that may not be.
func (v *VM) checkRun(budget, now int) error {
	switch {
	case !v.made():
		return refuse(0, api.ErrZero)
	case budget < 1 || budget > api.MaxBudget:
		return refuse(0, api.ErrArg)
	case now < v.now || now > api.MaxClock:
		return refuse(0, api.ErrRange)
	case v.state == api.Ended:
		return refuse(0, api.ErrEnd)
	case v.state == api.Asked:
		return refuse(0, api.ErrAsked)
	}
	return nil
}

// checkAsked refuses a process that wants no answer.
func (v *VM) checkAsked() error {
	switch {
	case !v.made():
		return refuse(0, api.ErrZero)
	case v.state != api.Asked:
		return refuse(0, api.ErrAsked)
	}
	return nil
}

func copyTerms(terms []api.Term) []api.Term {
	all := make([]api.Term, len(terms))
	for i, t := range terms {
		all[i] = term.Copy(t)
	}
	return all
}

// copyCode is the same in new memory.
func copyCode(c api.Code) api.Code {
	mods := slices.Clone(c.Mods)
	for i := range mods {
		m := &mods[i]
		m.Exports, m.Funs = slices.Clone(m.Exports), slices.Clone(m.Funs)
		for k := range m.Funs {
			m.Funs[k].Code = slices.Clone(m.Funs[k].Code)
		}
	}
	return api.Code{Consts: copyTerms(c.Consts), Mods: mods}
}
