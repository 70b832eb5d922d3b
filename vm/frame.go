package vm

import "heddle/api"

// frame is a call that has not come back. The terms that a process has are never changed, so that frames share them.
type frame struct {
	mod    *api.Mod
	fun    *api.Fun
	at     int // its next instruction
	locals []*api.Term
	stack
}

func newFrame(mod *api.Mod, fun *api.Fun, args []*api.Term) *frame {
	locals := make([]*api.Term, fun.Locals)
	copy(locals, args)
	return &frame{mod: mod, fun: fun, locals: locals}
}

// handler takes what is raised.
type handler struct {
	frames  int // its own one and those below it
	at      int
	height  int
	isGuard bool
}

func (v *VM) top() *frame { return v.frames[len(v.frames)-1] }

// keep ends all frames but so many.
func (v *VM) keep(frames int) {
	clear(v.frames[frames:]) // else the list's room would hold what they had
	v.frames = v.frames[:frames]
}

// export is the function of so many arguments that a module exports; nil, if there is none.
func (v *VM) export(mod, fun string, arity int) (*api.Mod, *api.Fun) {
	for i := range v.code.Mods {
		m := &v.code.Mods[i]
		if m.Name != mod {
			continue
		}
		for _, k := range m.Exports {
			if f := &m.Funs[k]; f.Name == fun && f.Arity == arity {
				return m, f
			}
		}
	}
	return nil, nil
}

// stack is a frame's. Well formed code may take away what stands below a handler's height and raise then: cut to that height, the stack has there what was put there last. So cells are not emptied.
type stack struct {
	cells  []*api.Term
	height int
}

func (s *stack) push(terms ...*api.Term) {
	for _, t := range terms {
		if s.height == len(s.cells) {
			s.cells = append(s.cells, nil)
		}
		s.cells[s.height] = t
		s.height++
	}
}

func (s *stack) pop() *api.Term {
	s.height--
	return s.cells[s.height]
}

// upper are so many of the uppermost terms, the first of them lowest.
func (s *stack) upper(n int) []*api.Term { return s.cells[s.height-n : s.height] }

// take takes so many terms away, the first of them lowest.
func (s *stack) take(n int) []api.Term {
	terms := make([]api.Term, n)
	for i, t := range s.upper(n) {
		terms[i] = *t
	}
	s.height -= n
	return terms
}

func pointers(terms []api.Term) []*api.Term {
	all := make([]*api.Term, len(terms))
	for i := range terms {
		all[i] = &terms[i]
	}
	return all
}

func symbol(text string) *api.Term { return &api.Term{Kind: api.KAtom, Text: text} }
