package match

import (
	"errors"

	"heddle/api"
	"heddle/term"
)

const layer = "match"

func refuse(at int, code api.Errno) error { return &api.Fault{Layer: layer, At: at, Code: code} }

// faultOf is the fault that a layer below tells; nil of none.
func faultOf(err error) *api.Fault {
	var fault *api.Fault
	errors.As(err, &fault)
	return fault
}

// wrap tells a fault of a layer below at a place of this one; nil of none.
func wrap(at int, under *api.Fault) error {
	if under == nil {
		return nil
	}
	return &api.Fault{Layer: layer, At: at, Code: under.Code, Under: under}
}

// checkNode refuses what is no node's number, and a node that is not of the form that is asked for.
func (r *Rules) checkNode(i int, hasForm func(i int) bool) error {
	switch {
	case !r.made():
		return refuse(0, api.ErrZero)
	case !r.isNode(i):
		return refuse(0, api.ErrRange)
	case !hasForm(i):
		return refuse(0, api.ErrRule)
	}
	return nil
}

// checkClauses refuses numbers that are no nodes', wherever they stand, ahead of nodes that are no clauses.
func (r *Rules) checkClauses(clauses []int) error {
	if !r.made() {
		return refuse(0, api.ErrZero)
	}
	for _, i := range clauses {
		if !r.isNode(i) {
			return refuse(0, api.ErrRange)
		}
	}
	for place, i := range clauses {
		if r.nodes[i].Kind != api.NClause {
			return refuse(place, api.ErrRule)
		}
	}
	return nil
}

func checkTerm(at int, t api.Term) error { return wrap(at, faultOf(term.Check(t))) }

func checkArgs(args []api.Term) error {
	for place, t := range args {
		if err := checkTerm(place, t); err != nil {
			return err
		}
	}
	return nil
}

func checkEnvironment(env []api.Term) error {
	for slot, t := range env {
		if isUnset(t) {
			continue
		}
		if err := checkTerm(slot, t); err != nil {
			return err
		}
	}
	return nil
}

func isUnset(t api.Term) bool { return t.Kind == 0 }

func checkWho(who api.Who) error {
	if err := checkTerm(0, who.Self); err != nil {
		return err
	}
	if who.Self.Kind != api.KPid {
		return refuse(0, api.ErrArg)
	}
	return checkName(who.Node)
}

// checkName refuses what is no node's name. This layer does not lean on package atom, but package term does: of a pid with that name nothing else can be wrong, and the fault of package atom lies under term's.
func checkName(name string) error {
	fault := faultOf(term.Check(api.Term{Kind: api.KPid, Text: name, Nums: make([]uint32, 2)}))
	if fault == nil {
		return nil
	}
	return wrap(0, faultOf(fault.Under))
}
