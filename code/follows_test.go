package code_test

import (
	"errors"
	"fmt"
	"math/rand"
	"slices"
	"testing"

	"heddle/api"
	"heddle/code"
	"heddle/sample"
)

// toldOf is an error's number and place.
func toldOf(err error) told {
	var f *api.Fault
	if !errors.As(err, &f) {
		return told{}
	}
	return told{f.Code, f.At}
}

// agree holds Check, Height, Print and Read of a program against the model, and P15.6; is it well formed?
func agree(t *testing.T, c api.Code) bool {
	t.Helper()
	want := modelCheck(c)
	err := code.Check(c)
	if toldOf(err) != want || err != nil && !sample.IsFault(err, fault(want.at, want.code)) {
		t.Errorf("Check: %v; want %v; of the program\n%s", err, want, show(c))
		return false
	}
	s, err := code.Print(c)
	if want != (told{}) {
		if s != "" || toldOf(err) != want {
			t.Errorf("Print = %q, %v; want %v; of the program\n%s", s, err, want, show(c))
		}
		return false
	}
	if s != modelPrint(c) || err != nil {
		t.Errorf("Print = %q, %v; want %q", s, err, modelPrint(c))
	}
	if d, err := code.Read(s); !sample.SameCode(d, c) || err != nil {
		t.Errorf("Read(%q) = %v, %v", s, d, err)
	}
	for i, m := range c.Mods {
		for k, f := range m.Funs {
			md := &model{c: c, m: m, f: f}
			md.states(nil)
			if h, err := code.Height(c, i, k); h != md.height || err != nil {
				t.Errorf("Height(%d, %d) = %d, %v; want %d; of the program\n%s", i, k, h, err, md.height, show(c))
			}
		}
	}
	return true
}

// P15.2 to P15.6: programs by chance, well formed ones and changed ones, against the chapter told once more.
func TestByChance(t *testing.T) {
	count := map[told]int{}
	for seed := range int64(2500) {
		m := &maker{r: rand.New(rand.NewSource(seed))}
		c := m.program()
		if !agree(t, c) {
			t.Fatalf("seed %d: what is made is not well formed: %v\n%s", seed, code.Check(c), show(c))
		}
		for range 8 {
			m.change(c)
			if !agree(t, c) {
				count[told{code: modelCheck(c).code}]++
			} else {
				count[told{}]++
			}
			if t.Failed() {
				t.Fatalf("seed %d", seed)
			}
		}
	}
	for _, code := range []api.Errno{0, api.ErrCode, api.ErrFlow, api.ErrUnset, api.ErrTwice} {
		if count[told{code: code}] < 50 {
			t.Errorf("too few of number %d: %v", code, count)
		}
	}
}

// P15.2, P15.3: junk of all instructions, mostly of right forms.
func TestJunk(t *testing.T) {
	count := map[api.Errno]int{}
	m := &maker{r: rand.New(rand.NewSource(1))}
	for range 60000 {
		n := m.r.Intn(7) + 1
		var l []api.Insn
		for len(l) < n {
			l = append(l, m.junk(n)...)
		}
		c := prog(api.Fun{Name: "f", Arity: m.r.Intn(3), Locals: 3, Code: l[:n]}, fun("g", 1, 1, "load 0; return"))
		agree(t, c)
		count[modelCheck(c).code]++
		if t.Failed() {
			t.FailNow()
		}
	}
	for _, code := range []api.Errno{0, api.ErrCode, api.ErrFlow, api.ErrUnset} {
		if count[code] < 100 {
			t.Errorf("too few of number %d: %v", code, count)
		}
	}
}

// P15.2, P15.3: all functions of two instructions with small numbers.
func TestAllPairs(t *testing.T) {
	var all []api.Insn
	for op := range api.Op(31) {
		for a := range 3 {
			for b := range 3 {
				all = append(all, api.Insn{Op: op, A: a, B: b})
			}
		}
	}
	for _, first := range all {
		if first.Op == 0 || first.Op == 30 || modelCheck(unreached(first)).code == api.ErrCode {
			continue
		}
		for _, second := range all {
			agree(t, prog(api.Fun{Name: "f", Arity: 1, Locals: 2, Code: []api.Insn{first, second}}, fun("g", 0, 0, "const 0; return")))
		}
		if t.Failed() {
			t.FailNow()
		}
	}
}

// P15.7: what is well formed stays so with more constants behind, more functions and modules, and whatever else the others do; with the same height.
func TestStaysWellFormed(t *testing.T) {
	for seed := range int64(1500) {
		m := &maker{r: rand.New(rand.NewSource(seed))}
		c := m.program()
		for i, mod := range c.Mods {
			for k, f := range mod.Funs {
				before, err := code.Height(c, i, k)
				if err != nil {
					t.Fatal(err)
				}
				d := around(m, c, i, k)
				if after, err := code.Height(d, i, k); after != before || err != nil {
					t.Errorf("seed %d: of %v Height(%d, %d) = %d, %v; want %d; in\n%s", seed, f, i, k, after, err, before, show(d))
				}
			}
		}
	}
}

// around is another program with the function in it: the same constants ahead, modules and functions.
func around(m *maker, c api.Code, mod, number int) api.Code {
	d := api.Code{Consts: append(slices.Clone(c.Consts), num(1), word("more"), tuple(word("x"), word("y")))}
	for i, from := range c.Mods {
		to := api.Mod{Name: from.Name}
		for k, f := range from.Funs {
			if i != mod || k != number {
				f = api.Fun{Name: f.Name, Arity: f.Arity, Locals: f.Arity}
				m.funs = from.Funs
				m.body(&f)
			}
			to.Funs = append(to.Funs, f)
		}
		for k := range m.r.Intn(3) {
			to.Funs = append(to.Funs, fun(fmt.Sprint("more", k), k, k, "const 15; return"))
		}
		for k := range to.Funs {
			if m.r.Intn(2) == 0 {
				to.Exports = append(to.Exports, k)
			}
		}
		d.Mods = append(d.Mods, to)
	}
	return api.Code{Consts: d.Consts, Mods: append(d.Mods, api.Mod{Name: "more", Funs: several(2)})}
}

// P15.6: Read of Print, of great and small programs at the limits.
func TestThereAndBack(t *testing.T) {
	l := several(api.MaxFuns)
	all := prog(l...)
	for i := range l {
		all.Mods[0].Exports = append(all.Mods[0].Exports, i)
	}
	long, _ := everything()
	for _, c := range []api.Code{{}, all, long, {Mods: numbered(api.MaxMods)}, {Consts: sample.Ones(api.MaxConsts)}, of("65534*take; const 0; return"), of(upTo(api.MaxStack) + "8191*pop; return")} {
		s, err := code.Print(c)
		if err != nil {
			t.Fatal(err)
		}
		d, err := code.Read(s)
		if !sample.SameCode(c, d) || err != nil {
			t.Errorf("Read(%.200q): %v", s, err)
		}
		if again, err := code.Print(d); again != s || err != nil {
			t.Errorf("Print of Read(%.200q) = %.200q, %v", s, again, err)
		}
	}
}

func FuzzCheck(f *testing.F) {
	for seed := range int64(20) {
		f.Add(seed, uint8(seed))
	}
	f.Fuzz(func(t *testing.T, seed int64, changes uint8) {
		m := &maker{r: rand.New(rand.NewSource(seed))}
		c := m.program()
		for range changes % 16 {
			m.change(c)
		}
		agree(t, c)
	})
}
