package sample

import (
	"slices"

	"heddle/api"
)

// SameCode tells whether all fields of two programs are the same, nil and empty lists being the same.
func SameCode(a, b api.Code) bool {
	return slices.EqualFunc(a.Consts, b.Consts, Same) && slices.EqualFunc(a.Mods, b.Mods, sameMod)
}

func sameMod(a, b api.Mod) bool {
	return a.Name == b.Name && slices.Equal(a.Exports, b.Exports) && slices.EqualFunc(a.Funs, b.Funs, sameFun)
}

func sameFun(a, b api.Fun) bool {
	return a.Name == b.Name && a.Arity == b.Arity && a.Locals == b.Locals && slices.Equal(a.Code, b.Code)
}

// roomy is the same list in memory of its own, with room behind it that holds a mark.
func roomy[T any](list []T, mark T) []T { return append(slices.Clone(list), mark)[:len(list)] }

// behind is what stands in the room behind a list.
func behind[T any](list []T) T { return list[:len(list)+1][len(list)] }

// RoomyCode is the same program in memory of its own, with room behind all lists that says so: whoever writes there will show it.
func RoomyCode(c api.Code) api.Code {
	mods := roomy(c.Mods, api.Mod{Name: "room"})
	for i := range mods {
		m := &mods[i]
		m.Exports, m.Funs = roomy(m.Exports, 99), roomy(m.Funs, api.Fun{Name: "room"})
		for k := range m.Funs {
			m.Funs[k].Code = roomy(m.Funs[k].Code, api.Insn{Op: 99})
		}
	}
	return api.Code{Consts: Roomy(c.Consts), Mods: mods}
}

// UntouchedCode tells whether a program is as RoomyCode made it of that one, what lies behind its lists too.
func UntouchedCode(c, was api.Code) bool {
	if !SameCode(c, was) || !Untouched(c.Consts, was.Consts) || behind(c.Mods).Name != "room" {
		return false
	}
	for _, m := range c.Mods {
		if behind(m.Exports) != 99 || behind(m.Funs).Name != "room" {
			return false
		}
		for _, f := range m.Funs {
			if behind(f.Code).Op != 99 {
				return false
			}
		}
	}
	return true
}

// ScribbleCode writes over all memory that a program reaches by its lists, what lies unused behind them too.
func ScribbleCode(c api.Code) {
	Scribble(api.Term{Args: c.Consts})
	for i := range c.Mods[:cap(c.Mods)] {
		m := &c.Mods[:cap(c.Mods)][i]
		for k := range m.Exports[:cap(m.Exports)] {
			m.Exports[:cap(m.Exports)][k] = -5
		}
		for k := range m.Funs[:cap(m.Funs)] {
			ScribbleFun(&m.Funs[:cap(m.Funs)][k])
		}
		*m = api.Mod{Name: "scribbled"}
	}
}

// ScribbleFun writes over a function likewise.
func ScribbleFun(f *api.Fun) {
	for k := range f.Code[:cap(f.Code)] {
		f.Code[:cap(f.Code)][k] = api.Insn{Op: -5}
	}
	*f = api.Fun{Name: "scribbled"}
}
