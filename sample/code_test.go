package sample_test

import (
	"slices"
	"testing"

	"heddle/api"
	"heddle/sample"
)

// program is one with something in each of its lists.
func program() api.Code {
	return api.Code{
		Consts: []api.Term{sample.Tuple(sample.Pid("n@h", 1, 2, 3)), sample.Int(1)},
		Mods: []api.Mod{
			{Name: "m", Exports: []int{0, 1}, Funs: []api.Fun{{Name: "f", Arity: 1, Locals: 2, Code: []api.Insn{{Op: api.CLoad}, {Op: api.CReturn}}}, {Name: "g", Code: []api.Insn{{Op: api.CConst, A: 1}, {Op: api.CReturn}}}}},
			{Name: "k"},
		},
	}
}

// changes are programs each of which is in one place another one than program's.
func changes() []api.Code {
	var all []api.Code
	for _, change := range []func(c *api.Code){
		func(c *api.Code) { c.Consts[0].Args[0].Nums[1] = 9 },
		func(c *api.Code) { c.Consts = c.Consts[:1] },
		func(c *api.Code) { c.Mods = c.Mods[:1] },
		func(c *api.Code) { c.Mods[1].Name = "l" },
		func(c *api.Code) { c.Mods[0].Exports[1] = 0 },
		func(c *api.Code) { c.Mods[0].Funs = c.Mods[0].Funs[:1] },
		func(c *api.Code) { c.Mods[0].Funs[0].Name = "h" },
		func(c *api.Code) { c.Mods[0].Funs[0].Arity = 2 },
		func(c *api.Code) { c.Mods[0].Funs[0].Locals = 3 },
		func(c *api.Code) { c.Mods[0].Funs[0].Code[1].A = 1 },
		func(c *api.Code) { c.Mods[0].Funs[1].Code[0].Op = api.CLoad },
	} {
		c := program()
		change(&c)
		all = append(all, c)
	}
	return all
}

func TestSameCode(t *testing.T) {
	all := append(changes(), program(), api.Code{})
	for i, a := range all {
		for j, b := range all {
			if sample.SameCode(a, b) != (i == j) {
				t.Errorf("SameCode of %d and %d is %v", i, j, i != j)
			}
		}
	}
	if !sample.SameCode(api.Code{}, api.Code{Consts: []api.Term{}, Mods: []api.Mod{}}) {
		t.Error("nil and empty lists are not the same")
	}
}

func TestRoomyCode(t *testing.T) {
	given := program()
	c := sample.RoomyCode(given)
	sample.ScribbleCode(given)
	if !sample.UntouchedCode(c, program()) || sample.UntouchedCode(c, given) || !sample.UntouchedCode(sample.RoomyCode(api.Code{}), api.Code{}) {
		t.Error("programs of which nothing was changed")
	}
	for i, changed := range changes() {
		if sample.UntouchedCode(sample.RoomyCode(changed), program()) {
			t.Errorf("the change %d is not seen", i)
		}
	}
	for place, touch := range []func(c api.Code){
		func(c api.Code) { _ = append(c.Consts, sample.Int(9)) },
		func(c api.Code) { _ = append(c.Consts[0].Args, sample.Int(9)) },
		func(c api.Code) { _ = append(c.Mods, api.Mod{}) },
		func(c api.Code) { _ = append(c.Mods[0].Exports, 9) },
		func(c api.Code) { _ = append(c.Mods[1].Exports, 9) },
		func(c api.Code) { _ = append(c.Mods[0].Funs, api.Fun{}) },
		func(c api.Code) { _ = append(c.Mods[1].Funs, api.Fun{}) },
		func(c api.Code) { _ = append(c.Mods[0].Funs[1].Code, api.Insn{}) },
	} {
		c := sample.RoomyCode(program())
		touch(c)
		if sample.UntouchedCode(c, program()) {
			t.Errorf("what the function %d writes behind a list is not seen", place)
		}
	}
}

func TestScribbleCode(t *testing.T) {
	c := program()
	consts, nums, mods, exports, funs, insns := c.Consts, c.Consts[0].Args[0].Nums, c.Mods, c.Mods[0].Exports, c.Mods[0].Funs, c.Mods[0].Funs[0].Code
	c.Mods, c.Consts = c.Mods[:1], c.Consts[:1]
	c.Mods[0].Funs, c.Mods[0].Exports = funs[:1], exports[:1]
	c.Mods[0].Funs[0].Code = insns[:1]
	sample.ScribbleCode(c)
	if consts[1].Text != "scribbled" || nums[1] != 77 || mods[0].Name != "scribbled" || mods[1].Name != "scribbled" || !slices.Equal(exports, []int{-5, -5}) ||
		funs[0].Name != "scribbled" || funs[1].Name != "scribbled" || insns[0].Op != -5 || insns[1].Op != -5 {
		t.Errorf("%v %v %v %v %v %v", consts, nums, mods, exports, funs, insns)
	}
	sample.ScribbleCode(api.Code{})
}
