package vm

import "heddle/api"

func (r *run) call(f *frame, in api.Insn) { r.enter(f, f.mod, &f.mod.Funs[in.A]) }

func (r *run) tail(f *frame, in api.Insn) { r.replace(f, f.mod, &f.mod.Funs[in.A]) }

func (r *run) remote(f *frame, in api.Insn) {
	mod, fun := r.exported(in)
	r.enter(f, mod, fun)
}

func (r *run) leave(f *frame, in api.Insn) {
	mod, fun := r.exported(in)
	r.replace(f, mod, fun)
}

// exported is the function that an instruction names by a constant.
func (r *run) exported(in api.Insn) (*api.Mod, *api.Fun) {
	names := r.code.Consts[in.A].Args
	mod, fun := r.export(names[0].Text, names[1].Text, in.B)
	if fun == nil {
		fail("undef")
	}
	return mod, fun
}

// enter calls a function: its frame stands upon that of who calls it.
func (r *run) enter(f *frame, mod *api.Mod, fun *api.Fun) {
	if len(r.frames) == api.MaxFrames {
		fail("system_limit")
	}
	r.frames = append(r.frames, newFrame(mod, fun, f.upper(fun.Arity)))
	f.height -= fun.Arity
}

// replace calls a function as the last thing that a frame does: what called that one is answered.
func (r *run) replace(f *frame, mod *api.Mod, fun *api.Fun) {
	r.frames[len(r.frames)-1] = newFrame(mod, fun, f.upper(fun.Arity))
}

// comeBack ends a frame with its answer.
func (r *run) comeBack(f *frame, _ api.Insn) {
	r.keep(len(r.frames) - 1)
	if len(r.frames) == 0 {
		r.end(symbol("normal"))
		return
	}
	r.top().push(f.pop())
}

func (r *run) raise(f *frame, in api.Insn) {
	classes := [...]string{"error", "exit", "throw"}
	panic(raised{classes[in.A], f.pop()})
}

func (r *run) try(f *frame, in api.Insn) { r.protect(f, in.A, false) }

func (r *run) guard(f *frame, in api.Insn) { r.protect(f, in.A, true) }

// protect: a handler more, of the uppermost frame.
func (r *run) protect(f *frame, at int, isGuard bool) {
	r.handlers = append(r.handlers, handler{frames: len(r.frames), at: at, height: f.height, isGuard: isGuard})
}

func (r *run) done(*frame, api.Insn) { r.handlers = r.handlers[:len(r.handlers)-1] }
