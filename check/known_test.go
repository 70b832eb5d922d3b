package check_test

import (
	"cmp"
	"fmt"
	"slices"
	"strconv"
	"strings"
	"testing"

	"heddle/api"
	"heddle/check"
)

// P12.1: what is known of variables: the chapter's examples; slots in the order in which names are first met, of a match the expression's first, in every clause of a function from 0 on.
func TestCheckSlots(t *testing.T) {
	for _, c := range [][2]string{
		{"f(X) -> Y = X, {Y, Y}.", "X=0 Y=1 X.0 Y.1 Y.1"},
		{"f(X, X) -> ok.", "X=0 X?0"},
		{"f(A) -> case A of 1 -> B = 2; _ -> B = 3 end, B.", "A=0 A.0 B=1 _ B=1 B.1"},
		{"f() -> {X = 1, X}.", "X=0 X.0"},
		{"f(B, A) -> {A, B}.", "B=0 A=1 A.1 B.0"},
		{"f({A, [B | C]}, B) -> C.", "A=0 B=1 C=2 B?1 C.2"},
		{"f(A = B) -> 1.", "A=0 B=1"},
		{"f({A, B} = {B, A} = C) -> 1.", "A=0 B=1 B?1 A?0 C=2"},
		{"f() -> A = B = 1, {A, B}.", "A=1 B=0 A.1 B.0"},
		{"f() -> (A = B) = 1.", "A=0 B=1"},
		{"f() -> {A, B} = {C = 1, D = 2}, [A, B, C | D].", "A=2 B=3 C=0 D=1 A.2 B.3 C.0 D.1"},
		{"f() -> {A, A} = {A = 1, A}.", "A?0 A?0 A=0 A.0"},
		{"f(V) -> case V of {A, B} -> 1; {B, C} when C -> A = B end, {A, B}.", "V=0 V.0 A=1 B=2 B=2 C=3 C.3 A=1 B.2 A.1 B.2"},
		{"f(V) -> case V of A -> A; B -> B; A -> {A, V} end, C = 1.", "V=0 V.0 A=1 A.1 B=2 B.2 A=1 A.1 V.0 C=3"},
		{"f() -> receive A -> B = A; {B, C} -> A = C after D = 1 -> B = D, A = B end, {A, B}.", "A=0 B=1 A.0 B=1 C=2 A=0 C.2 D=3 B=1 D.3 A=0 B.1 A.0 B.1"},
		{"f(V) -> V andalso (A = 1) orelse (B = 2), C = V.", "V=0 V.0 A=1 B=2 C=3 V.0"},
		{"f() -> try A = 1, A catch B -> B; error:{C, B} -> {C, B} end, D = 1.", "A=0 A.0 B=1 B.1 C=2 B=1 C.2 B.1 D=3"},
		{"f(A) -> try A catch A when A -> A end, A.", "A=0 A.0 A?0 A.0 A.0 A.0"},
		{"f(A) -> A; f(B) -> {B, C = 1}; f(C) -> D = C.", "A=0 A.0 B=0 B.0 C=1 C=0 D=1 C.0"},
		{"f(A, B) -> B. g(B) -> B.", "A=0 B=1 B.1 B=0 B.0"},
		{"f(A) when A; 1, A -> -A.", "A=0 A.0 A.0 A.0"},
		{"f(A) -> A ! k:g(A, _ = A).", "A=0 A.0 k:g/2 A.0 _ A.0"},
	} {
		knows(t, c[0], c[1])
	}
}

// counts writes the slots of a program's functions and of their clauses, in the order of the text.
func counts(l []api.Node, seen []api.Seen) string {
	var functions []int
	for i, n := range l {
		if n.Kind == api.NFunction {
			functions = append(functions, i)
		}
	}
	slices.SortFunc(functions, func(a, b int) int { return cmp.Compare(l[a].At, l[b].At) })
	var all []string
	for _, i := range functions {
		s := strconv.Itoa(seen[i].Slot) + ":"
		for _, clause := range l[i].Kids {
			s += " " + strconv.Itoa(seen[clause].Slot)
		}
		all = append(all, s)
	}
	return strings.Join(all, ", ")
}

// P12.1: how many slots clauses and functions have.
func TestCheckCounts(t *testing.T) {
	for _, c := range [][2]string{
		{"f() -> 1.", "0: 0"}, {"f(_) -> _ = 1.", "0: 0"}, {"f(A) -> A.", "1: 1"}, {"f(A, A) -> B = A, {A, B}.", "2: 2"},
		{"f(A, B) -> C = 1; f(_, A) -> A; f(_, _) -> 1.", "3: 3 1 0"}, {"f(_) -> 1; f(A) -> A; f({A, B}) -> B; f(B) -> 2.", "2: 0 1 2 1"},
		{"f(A) -> A. g() -> 1. f(A, B) -> 1; f(A, {B, C}) -> D = 1.", "1: 1, 0: 0, 4: 2 4"},
		{"f(V) -> case V of A -> 1; B -> 2; A -> 3 end.", "3: 3"}, {"f(V) -> try A = V catch B -> V andalso (C = B) end.", "4: 4"}, {"f() -> receive A -> 1 after B = 2 -> C = 3 end; f() -> A = 1.", "3: 3 1"},
	} {
		l, root := nodes(t, head+c[0])
		seen, err := check.Check(l, root)
		if err != nil || counts(l, seen) != c[1] {
			t.Errorf("%s: %v, %v, not %s", c[0], seen, err, c[1])
		}
	}
}

// P12.1: of which kinds something is known.
func TestCheckKnown(t *testing.T) {
	l, root := nodes(t, allKinds)
	beside := append(copied(l), api.Node{Kind: api.EVar, Text: "X"}, api.Node{Kind: api.ECall, Text: "self"}, api.Node{})
	seen, err := check.Check(beside, root)
	if err != nil || len(seen) != len(beside) {
		t.Fatalf("%d of %d, %v", len(seen), len(beside), err)
	}
	met := map[api.NodeKind]int{}
	for i, n := range l {
		met[n.Kind]++
		role := seen[i].Role
		var fits bool
		switch n.Kind {
		case api.EVar:
			fits = role == api.RBind || role == api.RUse || role == api.RTest || role == api.RAny && seen[i].Slot == 0
		case api.ECall:
			fits = role == api.RLocal || role == api.RBif || role == api.RRemote && seen[i].Slot == 0
		case api.NFunction, api.NClause:
			fits = role == api.RNone
		default:
			fits = seen[i] == api.Seen{}
		}
		if !fits {
			t.Errorf("%+v: %+v", n, seen[i])
		}
	}
	if len(met) != 27 {
		t.Errorf("%d kinds", len(met))
	}
	for i := len(l); i < len(seen); i++ {
		if seen[i] != (api.Seen{}) {
			t.Errorf("node %d, which is not reached: %+v", i, seen[i])
		}
	}
	if got := counts(l, seen); got != "1: 1 1, 0: 0" {
		t.Error(got)
	}
	// Clauses that are no functions' have no scope.
	l, root = nodes(t, head+"f(X) -> case X of Y -> Y end, receive Z -> Z end, try X catch W -> W end.")
	seen, err = check.Check(l, root)
	for i, n := range l {
		if err != nil || n.Kind == api.NClause && n.Text != "f" && seen[i] != (api.Seen{}) {
			t.Errorf("%+v: %v", n, err)
		}
	}
}

// manyNames is so many names, with commas between.
func manyNames(n int) string {
	var all []string
	for i := range n {
		all = append(all, "X"+strconv.Itoa(i))
	}
	return strings.Join(all, ", ")
}

// P12.1: 1024 names in a scope, and one more, wherever it is met; scopes are clauses.
func TestCheckManyNames(t *testing.T) {
	most := "{" + manyNames(1024) + "}"
	for _, s := range []string{
		"f(" + most + ") -> 1.", "f(" + most + ", " + most + ") -> {" + manyNames(1024) + "}.", "f(" + most + ") -> 1; f({Y, Z}) -> 2; f(" + strings.ReplaceAll(most, "X", "Y") + ") -> 3.", "f(" + most + ") -> 1. g(Y) -> Y.",
		"f(_) -> " + most + " = 1.", "f(V) -> case V of 1 -> {" + manyNames(1023) + "} = 2; {" + manyNames(1022) + "} -> 3 end.", "f(" + most + ") -> _ = X1023, X0 = X1.", "f({" + manyNames(1023) + "}) -> Y = 1, {Y, _} = Y.",
		"f(V) -> case V of 1 -> X0 = 1; 2 -> {" + manyNames(1023) + "} = 3; 3 -> X7 = 1 end.", "f(V) -> try {" + manyNames(1022) + "} = V catch Y -> Y end.",
	} {
		forms(t, api.OK, s)
	}
	for _, s := range []string{
		"f({" + manyNames(1024) + ", ^X1024}) -> 1.", "f({" + manyNames(1024) + ", ^Y, Z}) -> 1.", "f(" + most + ", ^Y) when Z -> 1.", "f(" + most + ") -> ^Y = X1.", "f(1) -> 1; f(" + most + ") -> 1, {X0, ^Y} = X1, Z.", "f(_) -> 1. g() -> " + most + " = 1, X3, ^Y = X4.",
		"f(V) -> case V of 1 -> {" + manyNames(1023) + "} = 2; {^Y} -> 3 end.", "f(V) -> case V of {" + manyNames(1023) + "} -> 2; _ -> X1 = X2 = X1022 = ^Y = 3 end.", "f(V) -> try {" + manyNames(1023) + "} = V catch ^Y -> Y end.",
		"f(V) -> V andalso ({" + manyNames(1023) + "} = V), V orelse (^Y = V).", "f(V) -> receive {" + manyNames(1023) + "} -> 1 after ^Y = 1 -> 2 end.",
	} {
		forms(t, api.ErrVars, s)
	}
	forms(t, api.ErrUnbound, "f("+most+") -> Y = ^Y.")
	forms(t, api.ErrUnbound, "f("+most+") -> ^Y, Y = 1.")
	forms(t, api.ErrUnsafe, "f(V) -> V andalso ({"+manyNames(1023)+"} = V), ^X3 = V.")
	forms(t, api.ErrVars, "f("+most+") -> ^Y = 1, g().")
	forms(t, api.ErrUnknown, "f("+most+") -> Y = ^g().")

	l, root := nodes(t, head+"f(_) -> "+most+" = 1; f(X) -> X.")
	seen, err := check.Check(l, root)
	if err != nil || counts(l, seen) != "1024: 1024 1" {
		t.Fatal(counts(l, seen), err)
	}
	for i, n := range l {
		if n.Kind == api.EVar && len(n.Text) > 1 && seen[i] != (api.Seen{Role: api.RBind, Slot: number(n.Text)}) {
			t.Errorf("%s: %+v", n.Text, seen[i])
		}
	}
}

// number is the number behind a name's first letter.
func number(name string) int {
	n, err := strconv.Atoi(name[1:])
	if err != nil {
		return -1
	}
	return n
}

// Many names and many ways end soon.
func TestCheckGreat(t *testing.T) {
	most := "{" + manyNames(1000) + "} = V, "
	for _, s := range []string{
		most + "1" + strings.Repeat(" andalso 1", 400), most + some(2500, "V andalso V"), most + "case V of 0 -> 1" + strings.Repeat("; 1 -> X7", 2500) + " end", most + some(1200, "try V catch V -> V end"), most + some(1200, "receive after V -> V end"),
		strings.Repeat("case V of 1 -> case V of 2 -> X = 1; 3 -> X = 4 end; V -> ", 120) + "X = 1" + strings.Repeat(" end", 120) + ", X",
	} {
		body(t, api.OK, s)
	}
}

// Rules 4 and 7: Check changes nothing and keeps nothing, of nodes nor of answers.
func TestCheckKeepsNothing(t *testing.T) {
	l, root := nodes(t, allKinds)
	before := copied(l)
	first, err := check.Check(l, root)
	if err != nil || !slices.EqualFunc(l, before, sameNode) {
		t.Fatalf("nodes are changed, or %v", err)
	}
	want := slices.Clone(first)
	for i := range l {
		kids := l[i].Kids[:cap(l[i].Kids)]
		for k := range kids {
			kids[k] = -1
		}
		l[i] = api.Node{Kind: api.EVar, Text: "Gone"}
	}
	if !slices.Equal(first, want) {
		t.Error("nodes that are changed change an answer")
	}
	second, err := check.Check(before, root)
	if err != nil || !slices.Equal(second, want) {
		t.Errorf("again: %v", err)
	}
	all := first[:cap(first)]
	for i := range all {
		all[i] = api.Seen{Role: -1, Slot: -1}
	}
	if third, err := check.Check(before, root); err != nil || !slices.Equal(second, want) || !slices.Equal(third, want) {
		t.Errorf("answers that are changed change others: %v", err)
	}

	// Nor of faults.
	l, root = nodes(t, head+"f() -> X.")
	_, one := check.Check(l, root)
	told := fmt.Sprint(one)
	for i := range l {
		l[i].At = 1000
	}
	_, two := check.Check(l, root)
	if fmt.Sprint(one) != told || fmt.Sprint(two) == told || one == two {
		t.Errorf("%v, %v, at first %s", one, two, told)
	}
}

// P12.1: places are told as they are, whatever they are.
func TestCheckPlaces(t *testing.T) {
	l, root := nodes(t, head+"f() -> X.")
	for _, at := range []int{0, -1, 7, 1 << 60, -1 << 63} {
		for i := range l {
			l[i].At = 5
			if l[i].Kind == api.EVar {
				l[i].At = at
			}
		}
		refuses(t, "a place", l, root, faulty(at, api.ErrUnbound))
	}
}
