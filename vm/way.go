package vm

import (
	"heddle/api"
	"heddle/bif"
	"heddle/term"
)

func (r *run) jump(f *frame, in api.Insn) { f.at = in.A }

func (r *run) branch(f *frame, in api.Insn) {
	t := f.pop()
	if bif.True(*t) {
		return
	}
	if in.B == 1 && !equal(t, symbol("false")) {
		fail("badarg")
	}
	f.at = in.A
}

func (r *run) is(f *frame, in api.Insn) {
	if !equal(f.pop(), &r.code.Consts[in.A]) {
		f.at = in.B
	}
}

func (r *run) parts(f *frame, in api.Insn) {
	t := f.pop()
	if t.Kind != api.KTuple || len(t.Args) != in.A {
		f.at = in.B
		return
	}
	for i := range t.Args {
		f.push(&t.Args[len(t.Args)-1-i])
	}
}

// cons shares a list's memory with what is left of it: package term's Split would make all of it anew for each element that is gone through.
func (r *run) cons(f *frame, in api.Insn) {
	t := f.pop()
	if t.Kind != api.KList {
		f.at = in.A
		return
	}
	rest := &t.Args[1]
	if len(t.Args) > 2 {
		rest = &api.Term{Kind: api.KList, Args: t.Args[1:]}
	}
	f.push(rest, &t.Args[0])
}

func (r *run) same(f *frame, in api.Insn) {
	b := f.pop()
	if !equal(f.pop(), b) {
		f.at = in.A
	}
}

// equal looks at no part of terms whose Kinds tell them apart.
func equal(a, b *api.Term) bool { return a.Kind == b.Kind && term.Equal(*a, *b) }
