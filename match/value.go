package match

import (
	"errors"

	"heddle/api"
	"heddle/bif"
	"heddle/term"
)

// failure is that of a test: with it a walk panics.
type failure struct{}

// holds: have all tests of one of a guard's rows the value true?
func (w *walk) holds(guard int) bool {
	for _, row := range w.rules.nodes[guard].Kids {
		if w.areTrue(w.rules.nodes[row].Kids) {
			return true
		}
	}
	return false
}

func (w *walk) areTrue(tests []int) bool {
	for _, i := range tests {
		if !bif.True(w.attempt(i)) {
			return false
		}
	}
	return true
}

// attempt is a test's value; unset, if it fails. An unset slot is no failure: it ends more than the test.
func (w *walk) attempt(i int) (value api.Term) {
	defer func() {
		switch end := recover().(type) {
		case nil:
		case failure:
			value = api.Term{}
		default:
			panic(end)
		}
	}()
	return w.value(i)
}

func (w *walk) value(i int) api.Term {
	n := w.rules.nodes[i]
	switch n.Kind {
	case api.EVar:
		return w.read(w.rules.seen[i].Slot)
	case api.ETuple:
		return whole(api.Term{Kind: api.KTuple, Args: w.values(n.Kids)})
	case api.EList:
		return whole(list(w.values(n.Kids)))
	case api.EAndAlso:
		return w.unless("false", n.Kids)
	case api.EOrElse:
		return w.unless("true", n.Kids)
	case api.ECall:
		if len(n.Kids) == 0 {
			return w.known(n.Text)
		}
		fallthrough
	case api.EUnary:
		fallthrough
	case api.EBinary:
		return call(n.Text, w.values(n.Kids)...)
	}
	return literal(n)
}

func (w *walk) values(tests []int) []api.Term {
	var values []api.Term
	for _, i := range tests {
		values = append(values, w.value(i))
	}
	return values
}

// unless is the left value, if it decides; else the right one.
func (w *walk) unless(decides string, sides []int) api.Term {
	left := w.value(sides[0])
	if !bif.True(call("is_boolean", left)) {
		panic(failure{})
	}
	if left.Text == decides {
		return left
	}
	return w.value(sides[1])
}

// known is what a process knows of itself.
func (w *walk) known(name string) api.Term {
	if name == "self" {
		return w.who.Self
	}
	return symbol(w.who.Node)
}

func call(name string, args ...api.Term) api.Term {
	value, err := bif.Call(name, args...)
	var refusal *api.Fault
	if errors.As(err, &refusal) {
		panic(failure{})
	}
	return value
}

// whole is what is made of terms, if it is one itself.
func whole(t api.Term) api.Term {
	if term.Check(t) != nil {
		panic(failure{})
	}
	return t
}

// list is the one of elements and, last, what stands behind them: a list there goes on with them.
func list(values []api.Term) api.Term {
	last := len(values) - 1
	if tail := values[last]; tail.Kind == api.KList {
		values = append(values[:last], tail.Args...)
	}
	return api.Term{Kind: api.KList, Args: values}
}
