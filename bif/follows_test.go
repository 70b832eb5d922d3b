package bif_test

import (
	"math/rand"
	"testing"

	"heddle/api"
	"heddle/bif"
	"heddle/sample"
	"heddle/term"
)

// must is what a call comes to, where it comes to something.
func must(t *testing.T, name string, args ...api.Term) api.Term {
	t.Helper()
	x, err := bif.Call(name, args...)
	if err != nil {
		t.Fatalf("%s(%s): %v", name, show(args...), err)
	}
	return x
}

// chance is a term by chance.
func chance(r *rand.Rand, depth int) api.Term {
	kind := r.Intn(7)
	if depth == 0 {
		kind = r.Intn(5)
	}
	var args []api.Term
	if kind > 4 {
		for range r.Intn(4) {
			args = append(args, chance(r, depth-1))
		}
	}
	switch kind {
	case 0:
		return num(r.Int63n(5) - 2)
	case 1:
		return word([]string{"", "a", "b", "aa"}[r.Intn(4)])
	case 2:
		return ref("n@h", uint32(r.Intn(2)), uint32(r.Intn(2)), 0, 0)
	case 3:
		return pid("n@h", uint32(r.Intn(2)), uint32(r.Intn(2)), 0)
	case 4:
		return null()
	case 5:
		return tuple(args...)
	}
	return joined(args, chance(r, 0))
}

// P13.5: of two terms just one of <, ==, > is true; max and min are the two.
func TestOrderFollows(t *testing.T) {
	r := rand.New(rand.NewSource(5))
	met := map[string]int{}
	pair := func(a, b api.Term) {
		var which []string
		for _, name := range []string{"<", "==", ">"} {
			if bif.True(must(t, name, a, b)) {
				which = append(which, name)
			}
		}
		if len(which) != 1 {
			t.Errorf("%s, %s: %v", show(a), show(b), which)
			return
		}
		met[which[0]]++
		high, low := must(t, "max", a, b), must(t, "min", a, b)
		if !sample.Same(high, a) && !sample.Same(high, b) || term.Compare(high, low) < 0 {
			t.Errorf("max and min of %s: %s", show(a, b), show(high, low))
		}
		if !(sample.Same(high, a) && sample.Same(low, b)) && !(sample.Same(high, b) && sample.Same(low, a)) {
			t.Errorf("max and min of %s: %s", show(a, b), show(high, low))
		}
		for name, other := range map[string]string{"==": "=/=", "<": ">=", ">": "=<", "=:=": "/="} {
			if bif.True(must(t, name, a, b)) == bif.True(must(t, other, a, b)) {
				t.Errorf("%s and %s of %s", name, other, show(a, b))
			}
		}
	}
	for _, a := range kinds() {
		for _, b := range kinds() {
			pair(a, b)
		}
	}
	for range 4000 {
		a, b := chance(r, 3), chance(r, 3)
		pair(a, b)
		pair(a, a)
	}
	if met["<"] < 1000 || met[">"] < 1000 || met["=="] < 1000 {
		t.Errorf("%v", met)
	}
}

// P13.6: length of A ++ B is the sum; (A ++ B) -- A is B.
func TestListsFollow(t *testing.T) {
	r := rand.New(rand.NewSource(6))
	some := func() api.Term {
		var row []api.Term
		for range r.Intn(9) {
			row = append(row, chance(r, 2))
		}
		return proper(row...)
	}
	for range 3000 {
		a, b := some(), some()
		both := must(t, "++", a, b)
		sum := must(t, "+", must(t, "length", a), must(t, "length", b))
		comes(t, sum, "length", both)
		comes(t, b, "--", both, a)
		comes(t, null(), "--", a, both)
		comes(t, a, "tuple_to_list", must(t, "list_to_tuple", a))
	}
	// At the limit.
	a, b := proper(ones(2000)...), proper(ones(2094)...)
	both := must(t, "++", a, b)
	comes(t, num(4094), "length", both)
	comes(t, b, "--", both, a)
	comes(t, a, "--", both, b)
}

// P13.7: (A div B) * B + A rem B is A, and the rest has A's sign and is below B.
func TestIntsFollow(t *testing.T) {
	for _, a := range edges() {
		for _, b := range edges() {
			if b.Int == 0 || a.Int == api.MinInt && b.Int == -1 {
				continue
			}
			quotient, rest := must(t, "div", a, b), must(t, "rem", a, b)
			comes(t, a, "+", must(t, "*", quotient, b), rest)
			if a.Int < 0 && rest.Int > 0 || a.Int > 0 && rest.Int < 0 || max(rest.Int, -rest.Int) >= max(b.Int, -b.Int) {
				t.Errorf("%d rem %d = %d", a.Int, b.Int, rest.Int)
			}
		}
	}
	refuses(t, api.ErrLimit, "div", num(api.MinInt), num(-1))
	comes(t, num(0), "rem", num(api.MinInt), num(-1))
}

// FuzzCall: any function of any terms comes to what is told of it.
func FuzzCall(f *testing.F) {
	for i := range chapter() {
		f.Add(i, "[1, 2]")
		f.Add(i, "[[49, 50], [49], 3]")
		f.Add(i, "[1, {a, b}, <n@h.1.5.0>]")
	}
	f.Fuzz(func(t *testing.T, i int, text string) {
		x, err := term.Read(text)
		if err != nil {
			return
		}
		function := chapter()[uint(i)%44]
		args, _ := elements(x)
		if len(args) != function.Arity {
			return
		}
		agrees(t, function.Name, args...)
	})
}
