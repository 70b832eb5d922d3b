package link_test

import (
	"errors"
	"testing"

	"heddle/api"
	"heddle/link"
	"heddle/sample"
)

// choice is an argument's value and which error it brings; 0, if it brings none.
type choice[T any] struct {
	value T
	code  api.Errno
}

var (
	actors = []choice[api.Term]{{val("a1"), 0}, {val("a9"), api.ErrTrace}, {val("a1/2"), api.ErrTrace}, {val("b7"), api.ErrTrace}, {api.Term{}, api.ErrTrace}, {pid("a@h", 1, 1), api.ErrTrace}, {word("x"), api.ErrTrace}, {val("a3"), api.ErrTrace}}
	pids   = []choice[api.Term]{{val("a2"), 0}, {val("b8"), 0}, {val("a9"), 0}, {val("a1"), 0}, {api.Term{}, api.ErrArg}, {pid("b@h", 1, 1), api.ErrArg}, {word("x"), api.ErrArg}, {val("a#1"), api.ErrArg}}
	// Of these the first two are of monitors that are there.
	refs    = []choice[api.Term]{{val("a#1"), 0}, {val("a#2"), 0}, {val("a#9"), 0}, {api.Term{}, api.ErrArg}, {ref("a@h", 1, 1, 0), api.ErrArg}, {val("a1"), api.ErrArg}}
	names   = []choice[string]{{"", 0}, {"x", 0}, {"\xff", api.ErrArg}}
	nodes   = []choice[string]{{"a@h", 0}, {"b@h", 0}, {"h", api.ErrArg}, {"", api.ErrArg}}
	reasons = []choice[api.Term]{{word("x"), 0}, {api.Term{}, api.ErrArg}, {word("\xff"), api.ErrArg}, {tuple(loop()), api.ErrArg}}
)

// ready is a table where all that a call may meet is there.
func ready(t *testing.T) *link.Table {
	t.Helper()
	x := open(t, "a1", "a2", "a3")
	play(t, x, `
		end a3 boom ->
		link a1 a2 ->
		link a1 b7 -> b: link a1 b7
		link a1 b6 -> b: link a1 b6
		unlink a1 b6 -> b: unlink 1 a1 b6
		monitor a1 a#1 a2 ->
		monitor a1 a#2 x@b - -> b: monitor a1 'x a#2
		take b monitor b7 a1 b#1 ->
	`)
	return x
}

// holds: a call brings the first of those errors that is one, and then changes nothing.
func holds(t *testing.T, s step, codes ...api.Errno) {
	t.Helper()
	x := ready(t)
	before := look(x)
	effects, err := s.perform(x)
	want := api.OK
	for _, code := range codes {
		if want == api.OK {
			want = code
		}
	}
	if want == api.OK {
		done(t, s.String(), err)
		return
	}
	refused(t, s.String(), effects, err, want)
	if after := look(x); after != before {
		t.Fatalf("%v: %s was %s", s, after, before)
	}
	// What is not to be seen is as it was, too.
	play(t, x, `
		take b exit b7 a1 boom -> exit a1 b7 boom
		take b exit b6 a1 boom ->
		link a1 b6 -> b: link a1 b6
		take b exit b6 a1 boom ->
		unlink a1 b6 -> b: unlink 2 a1 b6
		end a2 boom -> exit a1 a2 boom; down a1 a#1 a2 boom
		end a1 boom -> b: ended a1 b7 b#1 boom; b: demonitor a1 'x a#2
	`)
}

// Rule 2: of several errors the first one; nothing is changed.
func TestWhichError(t *testing.T) {
	for _, p := range actors {
		for _, q := range pids {
			holds(t, step{call: "link", p: p.value, q: q.value}, p.code, q.code)
			holds(t, step{call: "unlink", p: p.value, q: q.value}, p.code, q.code)
		}
		for _, reason := range reasons {
			holds(t, step{call: "end", p: p.value, q: reason.value}, p.code, reason.code)
		}
		for i, r := range refs {
			holds(t, step{call: "demonitor", p: p.value, ref: r.value}, p.code, r.code)
			var twice api.Errno
			if i < 2 {
				twice = api.ErrTwice
			}
			for _, q := range pids {
				for _, name := range names {
					for _, node := range nodes {
						s := step{call: "monitor", p: p.value, ref: r.value, q: q.value, name: name.value, node: node.value}
						place, asked := node.code, q.code
						if name.value == "" {
							place = 0
						} else if q.value.Kind == 0 {
							asked = 0
						}
						holds(t, s, p.code, r.code, asked, name.code, place, twice)
					}
				}
			}
		}
	}
	for _, p := range []choice[api.Term]{{val("a9"), 0}, {val("a1"), api.ErrTwice}, {val("a3"), api.ErrTwice}, {val("b1"), api.ErrArg}, {val("a1/2"), api.ErrArg}, {api.Term{}, api.ErrArg}} {
		holds(t, step{call: "born", p: p.value}, p.code)
	}
	for _, node := range nodes {
		code := node.code
		if node.value == "a@h" {
			code = api.ErrArg
		}
		holds(t, step{call: "down", node: node.value}, code)
	}
}

// every calls a table with all kinds of arguments, wrong ones among them.
func every(do func(s step)) {
	for _, p := range actors {
		do(step{call: "born", p: p.value})
		for _, q := range pids {
			do(step{call: "link", p: p.value, q: q.value})
			do(step{call: "unlink", p: p.value, q: q.value})
			for _, r := range refs {
				for _, name := range names {
					do(step{call: "monitor", p: p.value, ref: r.value, q: q.value, name: name.value, node: "b@h"})
				}
			}
		}
		for _, r := range refs {
			do(step{call: "demonitor", p: p.value, ref: r.value})
		}
		for _, reason := range reasons {
			do(step{call: "end", p: p.value, q: reason.value})
		}
	}
	for _, node := range nodes {
		do(step{call: "down", node: node.value})
		for kind := range sigWords {
			for _, named := range pids {
				do(step{call: "take", node: node.value, sig: whole(kind), q: named.value})
				do(step{call: "take", node: node.value, sig: api.Sig{Kind: kind}, q: named.value})
			}
		}
	}
}

// nobody holds that every call refuses with ErrZero, whatever else applies, or tells nothing.
func nobody(t *testing.T, what string, x *link.Table) {
	t.Helper()
	every(func(s step) {
		t.Helper()
		effects, err := s.perform(x)
		refused(t, what+": "+s.String(), effects, err, api.ErrZero)
		if x.Alive(s.p) || len(x.Links(s.p)) > 0 || len(x.Monitors(s.p)) > 0 || len(x.Watchers(s.p)) > 0 || x.Halves(s.node) != 0 {
			t.Fatalf("%s tells something", what)
		}
	})
	if text := look(x); text != "" {
		t.Errorf("%s: %s", what, text)
	}
}

// Rule 3: of a table that is nil, that was made or copied by hand.
func TestNobodysTable(t *testing.T) {
	nobody(t, "nil", nil)
	nobody(t, "new", new(link.Table))
	nobody(t, "literal", &link.Table{})
	for _, x := range []*link.Table{open(t), ready(t)} {
		before := look(x)
		copied := *x
		nobody(t, "copied", &copied)
		if after := look(x); after != before {
			t.Errorf("%s was %s", after, before)
		}
	}
}

// A table over which another one is laid by hand is nobody's either.
func TestOverwrittenTable(t *testing.T) {
	a, b := ready(t), ready(t)
	before := look(b)
	*a = *b
	nobody(t, "overwritten", a)
	if after := look(b); after != before {
		t.Errorf("%s was %s", after, before)
	}
	*b = link.Table{}
	nobody(t, "emptied by hand", b)
}

// An error that is none is nil, not a fault without anything.
func TestNoError(t *testing.T) {
	x := ready(t)
	for _, s := range []step{
		{call: "born", p: val("a4")}, {call: "link", p: val("a1"), q: val("b8")}, {call: "unlink", p: val("a1"), q: val("b8")}, {call: "monitor", p: val("a1"), ref: val("a#7"), q: val("b8")}, {call: "demonitor", p: val("a1"), ref: val("a#7")},
		{call: "take", node: "b@h", sig: whole(api.GLink)}, {call: "down", node: "b@h"}, {call: "end", p: val("a1"), q: word("x")},
	} {
		if _, err := s.perform(x); err != nil {
			t.Errorf("%v: %v", s, err)
		}
	}
}

// Errors are told by the numbers that are asked for: the outermost fault is this layer's, the innermost number that of the layer where it began.
func TestErrors(t *testing.T) {
	x := ready(t)
	_, err := x.Link(val("a9"), val("a1"))
	if !errors.Is(err, api.ErrTrace) {
		t.Error(err)
	}
	_, err = x.Take("b@h", api.Sig{Kind: api.GLink}, api.Term{})
	var outer *api.Fault
	if !errors.As(err, &outer) || outer.Layer != "link" || outer.Code != api.ErrArg || !errors.Is(err, api.ErrSig) || !sample.IsFault(outer.Under, api.Fault{Layer: "dist", Code: api.ErrSig}) {
		t.Error(err)
	}
}
