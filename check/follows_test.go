package check_test

import (
	"fmt"
	"maps"
	"math/rand"
	"slices"
	"testing"

	"heddle/api"
	"heddle/check"
	"heddle/parse"
)

// answer is what Check tells of nodes.
type answer struct {
	l    []api.Node
	root int
	seen []api.Seen
	err  error
}

func ask(l []api.Node, root int) answer {
	seen, err := check.Check(l, root)
	return answer{l, root, seen, err}
}

// agree holds what Check tells of a program against the model, and tells the fault, if there is one.
func agree(t *testing.T, p *tree, a answer) *fault {
	t.Helper()
	m := modelOf(p)
	if len(m.faults) > 0 {
		first := m.faults[0]
		if !isRefused(a.seen, a.err, faulty(first.at, first.code)) {
			t.Fatalf("%v, not %d at %d", a.err, first.code, first.at)
		}
		return &first
	}
	if a.err != nil || len(a.seen) != len(a.l) {
		t.Fatalf("%d of %d nodes, %v", len(a.seen), len(a.l), a.err)
	}
	below := parse.Below(a.l, a.root)
	for i, got := range a.seen {
		var want api.Seen
		if slices.Contains(below, i) {
			want = m.seen[a.l[i].At]
		}
		if got.Role == api.RLocal {
			got.Slot = a.l[got.Slot].At
		}
		if got != want {
			t.Fatalf("%+v: %+v, not %+v", a.l[i], got, want)
		}
	}
	return nil
}

// mend takes a fault out of a program.
func mend(p *tree, f fault, r *rand.Rand) {
	every(p, func(n *tree) {
		gone := func(kid *tree) bool { return kid.At == f.at }
		switch f.code {
		case api.ErrExport, api.ErrTwice, api.ErrClause:
			n.kids = slices.DeleteFunc(n.kids, gone)
			return
		}
		if n.At != f.at {
			return
		}
		switch f.code {
		case api.ErrModule:
			n.Text = fmt.Sprint("m", f.at)
		case api.ErrUnknown:
			n.Mod = "k"
			if r.Intn(2) == 0 {
				*n = tree{Node: api.Node{Kind: api.ECall, Text: []string{"self", "node", "f", "g"}[r.Intn(4)], At: n.At}}
			}
		case api.ErrPattern:
			if r.Intn(2) == 0 {
				*n = tree{Node: api.Node{Kind: api.EVar, Text: []string{"_", "A", "B"}[r.Intn(3)], At: n.At}}
				return
			}
			fallthrough
		default:
			*n = tree{Node: api.Node{Kind: api.EInt, At: n.At}}
		}
	})
}

// P12.1 and what follows from it, of programs by chance: each is mended fault by fault, till it is right.
func TestCheckSome(t *testing.T) {
	r := rand.New(rand.NewSource(12))
	codes, roles := map[api.Errno]int{}, map[api.Role]int{}
	for n := range 1000 {
		p := someProgram(r, []int{1, 2, 3, 2, 3, 2, 3, 2, 3, 4}[n%10])
		for steps := 0; ; steps++ {
			l, root := shuffled(p, r)
			a := ask(l, root)
			f := agree(t, p, a)
			if f == nil || steps%4 == 0 {
				renamed(t, a, r)
			}
			if f == nil {
				for _, s := range a.seen {
					roles[s.Role]++
				}
				boundIn(t, p, a)
				alone(t, a)
				break
			}
			codes[f.code]++
			mend(p, *f, r)
		}
	}
	for _, code := range []api.Errno{api.ErrModule, api.ErrExport, api.ErrTwice, api.ErrClause, api.ErrPattern, api.ErrGuard, api.ErrUnbound, api.ErrUnsafe, api.ErrUnknown} {
		if codes[code] < 100 {
			t.Errorf("%d was met only %d times", code, codes[code])
		}
	}
	for role := api.RNone; role <= api.RRemote; role++ {
		if roles[role] < 100 {
			t.Errorf("role %d was met only %d times", role, roles[role])
		}
	}
}

// renamed holds P12.3: names turned into others, unlike ones into unlike ones, change nothing; not even the numbers, for the nodes stand where they did.
func renamed(t *testing.T, a answer, r *rand.Rand) {
	t.Helper()
	names, err := check.Vars(a.l, a.root)
	if err != nil {
		t.Fatal(err)
	}
	others := append([]string{"A", "B", "C", "D", "_E"}, "X", "__", "_e", "A@", "Z9")
	r.Shuffle(len(others), func(i, k int) { others[i], others[k] = others[k], others[i] })
	turned := map[string]string{"_": "_"}
	for i, name := range names {
		turned[name] = others[i]
	}
	l := copied(a.l)
	for _, i := range parse.Below(l, a.root) {
		if l[i].Kind == api.EVar {
			l[i].Text = turned[l[i].Text]
		}
	}
	b := ask(l, a.root)
	if fmt.Sprint(a.err) != fmt.Sprint(b.err) || !slices.Equal(a.seen, b.seen) {
		t.Fatalf("%v and %v, names turned by %v", a.err, b.err, turned)
	}
}

// boundIn holds P12.4: in a scope each name that is read or tested is bound, with the same slot; unlike names have unlike slots. They are all that its clause counts.
func boundIn(t *testing.T, p *tree, a answer) {
	t.Helper()
	at := map[int]api.Seen{}
	for _, i := range parse.Below(a.l, a.root) {
		at[a.l[i].At] = a.seen[i]
	}
	every(p, func(function *tree) {
		if function.Kind != api.NFunction {
			return
		}
		for _, clause := range function.kids {
			binds, others := map[string]int{}, map[string]int{}
			every(clause, func(n *tree) {
				slots := others
				switch at[n.At].Role {
				case api.RBind:
					slots = binds
				case api.RUse, api.RTest:
				default:
					return
				}
				if slot, met := slots[n.Text]; met && slot != at[n.At].Slot {
					t.Fatalf("%s has the slots %d and %+v", n.Text, slot, at[n.At])
				}
				slots[n.Text] = at[n.At].Slot
			})
			for name, slot := range others {
				if bound, met := binds[name]; !met || bound != slot {
					t.Fatalf("%s: slot %d, bound %v, %d", name, slot, met, bound)
				}
			}
			slots := slices.Sorted(maps.Values(binds))
			for want, slot := range slots {
				if slot != want {
					t.Fatalf("slots %v", slots)
				}
			}
			if at[clause.At].Slot != len(slots) || at[function.At].Slot < len(slots) {
				t.Fatalf("%+v, %+v, slots %v", at[clause.At], at[function.At], slots)
			}
		}
	})
}

// alone holds P12.5: a module of a right program is right by itself; and the same is known of its nodes.
func alone(t *testing.T, a answer) {
	t.Helper()
	for _, module := range a.l[a.root].Kids {
		l := append(copied(a.l), api.Node{Kind: api.NProgram, Kids: []int{module}})
		b := ask(l, len(a.l))
		if b.err != nil {
			t.Fatalf("%+v: %v", a.l[module], b.err)
		}
		want := make([]api.Seen, len(l))
		for _, i := range parse.Below(l, module) {
			want[i] = a.seen[i]
		}
		if !slices.Equal(b.seen, want) {
			t.Fatalf("%+v: something else is known alone", a.l[module])
		}
	}
}

// P12.3: names turned into others, of texts: also into such as stand there already.
func TestCheckRenamed(t *testing.T) {
	for _, c := range [][2]string{
		{"f(X, Y) -> {X, Y, Z}.", "f(Y, X) -> {Y, X, W}."}, {"f(X, Y) -> V andalso (Z = 1), Z.", "f(A, B) -> C andalso (D = 1), D."}, {"f(X, X, Y) -> Z = X, Z.", "f(Y, Y, X) -> Q = Y, Q."},
		{"f(_X) -> case _X of Y -> Y; {Y, _} -> Y end, Y.", "f(Y_) -> case Y_ of Z -> Z; {Z, _} -> Z end, Z."}, {"f(A) -> try B = A catch C -> B end.", "f(B) -> try C = B catch A -> C end."},
	} {
		l, root := nodes(t, head+c[0])
		k, other := nodes(t, head+c[1])
		a, b := ask(l, root), ask(k, other)
		same := a.err != nil && b.err != nil && a.err.(*api.Fault).Code == b.err.(*api.Fault).Code || a.err == nil && b.err == nil
		if !same || !slices.Equal(a.seen, b.seen) {
			t.Errorf("%s: %v; %s: %v", c[0], a.err, c[1], b.err)
		}
	}
	// Like names are not unlike ones.
	forms(t, api.ErrUnbound, "f(X) -> ^Y.")
	forms(t, api.OK, "f(X) -> X.")
	forms(t, api.ErrUnbound, "f(x, X) -> ^X_.")
}

// P12.5: a module is right by itself, whatever the others have; but not the other way round.
func TestCheckAlone(t *testing.T) {
	const program = "-module(m). -export([f/0]). f() -> n:g(1), g(). g() -> self(). -module(n). g(X) when abs(X) -> m:f(). self() -> self(). -module(k)."
	l, root := nodes(t, program)
	a := ask(l, root)
	if a.err != nil {
		t.Fatal(a.err)
	}
	alone(t, a)
	if got := known(l, a.seen); got != "n:g/1 g/0 erlang:self/0 X=0 erlang:abs/1 X.0 m:f/0 self/0" {
		t.Error(got)
	}
}

// Of all texts of programs Check tells what the model does.
func FuzzCheck(f *testing.F) {
	for _, s := range []string{
		allKinds, head + "f(X) -> Y = X, {Y, Y}.", head + "f(A) -> case A of 1 -> B = 2; _ -> B = 3 end, B.", head + "f() -> try X = 1 catch _:_ -> 2 end, X.", head + "f(X) when g(X); X ++ X -> ok.", head + "f(1 + 1) -> receive X -> X after 5 -> X = 1 end, X.",
		head + "-export([g/0]). f() -> 1. f() -> g(), (true andalso (X = 1)), X. -module(m).", head + "f(1) -> 1; g(2) -> erlang:self(), k:g(_).",
	} {
		f.Add(s)
	}
	f.Fuzz(func(t *testing.T, s string) {
		l, root, err := parse.Text(s)
		if err != nil {
			return
		}
		names, err := check.Vars(l, root)
		// The model's ways double with each name.
		if err != nil || len(names) > 10 || len(l) > 2000 {
			return
		}
		// Places are to tell nodes apart, which those of a text do not.
		for i := range l {
			l[i].At = i
		}
		agree(t, treeOf(l, root), ask(l, root))
	})
}
