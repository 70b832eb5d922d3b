package bif_test

import (
	"math"
	"slices"
	"testing"

	"heddle/api"
	"heddle/bif"
	"heddle/sample"
)

// chapter is the functions as the chapter tells them; of those that api names, as api does.
func chapter() []api.Bif {
	var all []api.Bif
	add := func(guard bool, arity int, names ...string) {
		for _, name := range names {
			all = append(all, api.Bif{Name: name, Arity: arity, Kind: api.BTerm, Guard: guard})
		}
	}
	add(true, 1, "+", "-", "not")
	add(true, 2, "+", "-", "*", "div", "rem", "and", "or", "xor")
	add(false, 2, "++", "--")
	add(true, 2, "==", "/=", "=<", "<", ">=", ">", "=:=", "=/=")
	add(true, 1, "abs")
	add(true, 2, "element")
	add(true, 1, "tuple_size", "length", "hd", "tl", "is_atom", "is_boolean", "is_integer", "is_list", "is_pid", "is_reference", "is_tuple", "node")
	add(false, 3, "setelement")
	add(false, 2, "max", "min")
	add(false, 1, "list_to_tuple", "tuple_to_list", "integer_to_list", "list_to_integer", "atom_to_list", "list_to_atom")
	return all
}

// noNames are no functions' names, whatever the number of arguments.
var noNames = []string{
	"", " ", "foo", "+ ", " +", "+\x00", "\xff", "plus", "Abs", "abs/1", "erlang:abs", "andalso", "orelse", "=", "!", "===", "<=", "=>", "/", "**", "+++",
	"is_number", "is_list ", "size", "self", "throw", "error", "exit", "spawn", "link", "unlink", "monitor", "demonitor", "process_flag", "register", "unregister", "whereis", "monitor_node", "nodes", "make_ref", "display",
}

// P13.1: every function in its place, with its Guard; 44 in all.
func TestAll(t *testing.T) {
	got, want := bif.All(), chapter()
	if !slices.Equal(got, want) || len(got) != 44 {
		t.Errorf("All() = %v, want %v", got, want)
	}
	var rest []api.Bif
	for _, b := range api.Bifs() {
		if b.Kind == api.BTerm {
			rest = append(rest, b)
		}
	}
	if !slices.Equal(got[21:], rest) {
		t.Errorf("behind the operators: %v, want %v", got[21:], rest)
	}
}

// P13.1: each function by its name and number of arguments; no other by that name.
func TestFind(t *testing.T) {
	arities := []int{math.MinInt, -2, -1, 0, 1, 2, 3, 4, 5, 255, 256, 1<<32 + 1, 1<<32 + 2, math.MaxInt}
	for _, f := range chapter() {
		for _, arity := range arities {
			at := slices.IndexFunc(chapter(), func(b api.Bif) bool { return b.Name == f.Name && b.Arity == arity })
			got, ok := bif.Find(f.Name, arity)
			if ok != (at >= 0) || at >= 0 && got != chapter()[at] || at < 0 && got != (api.Bif{}) {
				t.Errorf("Find(%q, %d) = %v, %v", f.Name, arity, got, ok)
			}
		}
	}
	for _, name := range noNames {
		for _, arity := range arities {
			if got, ok := bif.Find(name, arity); ok || got != (api.Bif{}) {
				t.Errorf("Find(%q, %d) = %v, %v", name, arity, got, ok)
			}
		}
	}
}

// P13.1, P13.2: built-ins of other kinds are none of bif's, also where one of bif's has the name.
func TestOtherKinds(t *testing.T) {
	others := 0
	for _, b := range api.Bifs() {
		if b.Kind == api.BTerm {
			continue
		}
		others++
		if got, ok := bif.Find(b.Name, b.Arity); ok || got != (api.Bif{}) {
			t.Errorf("Find(%q, %d) = %v, %v", b.Name, b.Arity, got, ok)
		}
		refuses(t, api.ErrUndef, b.Name, ones(b.Arity)...)
	}
	if others != 20 {
		t.Errorf("%d built-ins of other kinds", others)
	}
	refuses(t, api.ErrUndef, "node")
	comes(t, word("n@h"), "node", pid("n@h", 1, 5, 0))
}

// P13.1, rule 4: a list that is changed changes nothing in a later one.
func TestAllIsNew(t *testing.T) {
	l := bif.All()
	l = l[:cap(l)]
	for i := range l {
		l[i] = api.Bif{Name: "scribbled", Arity: 7}
	}
	if !slices.Equal(bif.All(), chapter()) {
		t.Errorf("All() = %v", bif.All())
	}
	if b, ok := bif.Find("scribbled", 7); ok {
		t.Errorf("Find = %v", b)
	}
	comes(t, num(3), "+", num(1), num(2))
}

// P13.2: names that are none, and functions with more or fewer arguments, ahead of all else: of what is no term, too.
func TestUndef(t *testing.T) {
	names := slices.Clone(noNames)
	for _, f := range chapter() {
		names = append(names, f.Name)
	}
	for _, name := range names {
		for arity := range 6 {
			if slices.ContainsFunc(chapter(), func(b api.Bif) bool { return b.Name == name && b.Arity == arity }) {
				continue
			}
			refuses(t, api.ErrUndef, name, ones(arity)...)
			refuses(t, api.ErrUndef, name, make([]api.Term, arity)...)
			refuses(t, api.ErrUndef, name, slices.Repeat([]api.Term{word("\xff")}, arity)...)
		}
		refuses(t, api.ErrUndef, name, ones(257)...)
		refuses(t, api.ErrUndef, name, ones(258)...)
	}
}

// P13.2: the first argument that is no term, at its place, with the faults of term under it; ahead of arguments that the function does not take.
func TestNoTerms(t *testing.T) {
	for _, f := range chapter() {
		for _, x := range noTerms() {
			for place := range f.Arity {
				for _, other := range kinds() {
					args := slices.Repeat([]api.Term{other}, f.Arity)
					args[place] = x.t
					noTerm(t, f.Name, args, place, x.faults)
				}
				for _, second := range noTerms() {
					args := slices.Repeat([]api.Term{num(1)}, f.Arity)
					for i := place; i < f.Arity; i++ {
						args[i] = second.t
					}
					args[place] = x.t
					noTerm(t, f.Name, args, place, x.faults)
				}
			}
		}
	}
}

// noTerm: a call is refused for the argument at a place, with these faults under its own.
func noTerm(t *testing.T, name string, args []api.Term, place int, under []api.Fault) {
	t.Helper()
	got, err := bif.Call(name, args...)
	want := append([]api.Fault{fault(place, under[0].Code)}, under...)
	if !slices.Equal(faults(err), want) || !sample.IsZero(got) {
		t.Errorf("%s(%s) = %s, %v; want the fault of argument %d, %v", name, show(args...), show(got), err, place, under)
	}
}
