package compile_test

import (
	"math/rand"
	"slices"
	"strings"
	"testing"

	"heddle/api"
	"heddle/compile"
	"heddle/lex"
	"heddle/luck"
)

// sameEvents holds that processes of two programs do the same, by some calls; it tells how many events were seen.
func sameEvents(t *testing.T, text, other string, seed int64) int {
	t.Helper()
	a, b, events := made(t, text), made(t, other), 0
	for k := range int64(6) {
		fun, args := someCall(rand.New(rand.NewSource(seed + k)))
		one := byLuck(seed + k)
		got, want := watch(one, byCode(a, "m", fun, args)), watch(byLuck(seed+k), byCode(b, "m", fun, args))
		if got != want {
			t.Fatalf("%s\n and %s\n seed %d: %s %v: %s\n and %s", text, other, seed+k, fun, args, cut(got), cut(want))
		}
		events += len(one.seen)
	}
	return events
}

// renamed is a text with other names of variables, unlike ones for unlike ones.
func renamed(t *testing.T, text string, names map[string]string) string {
	t.Helper()
	tokens, err := lex.Scan(text)
	if err != nil {
		t.Fatal(err)
	}
	for i, x := range tokens {
		if other, there := names[x.Text]; there && x.Kind == api.TVar {
			tokens[i].Text = other
		}
	}
	other, err := lex.Join(tokens)
	if err != nil {
		t.Fatal(err)
	}
	return other
}

// P16.4: variables' names play no part.
func TestNamesPlayNoPart(t *testing.T) {
	others := []map[string]string{
		{"A": "B", "B": "C", "C": "D", "D": "E", "E": "A"}, {"A": "E", "B": "D", "D": "B", "E": "A"}, {"A": "_A", "B": "Heldvalue", "C": "X1", "D": "X@", "E": "ZzZzZzZz_0"},
	}
	events := 0
	for seed := range int64(150) {
		text := luck.Source(rand.New(rand.NewSource(seed)).Intn, 2+int(seed%3))
		events += sameEvents(t, text, renamed(t, text, others[seed%3]), 1000*seed)
	}
	if events < 2000 {
		t.Errorf("%d events: too few to tell", events)
	}
	whole := "f(V, W) -> receive {V, X} -> Y = W; X -> Y = V after Y = 3 -> X = W end, display([V, W, X | Y])."
	for _, names := range []map[string]string{{}, {"V": "W", "W": "V"}, {"X": "Y", "Y": "X"}, {"V": "Y", "W": "X", "X": "V", "Y": "W"}} {
		forms := renamed(t, whole, names)
		holdAll(t, []trial{
			{forms, "f(1, 2)", "display([1,2,5|2]) 1; end normal 1", come("+{1,5}")},
			{forms, "f(1, 2)", "display([1,2,{2,5}|1]) 1; end normal 1", come("+{2,5}")},
			{forms, "f(1, 2)", "wait till 3 0; display([1,2,2|3]) 1; end normal 1", come("", "@3")},
		})
	}
}

// shuffledForms is a text of the forms of two modules in another order; k ahead of m, if swapped.
func shuffledForms(r *rand.Rand, forms []string, swapped bool) string {
	second := slices.Index(forms, "-module(k).")
	one, other := slices.Clone(forms[:second]), slices.Clone(forms[second:])
	for _, module := range [][]string{one, other} {
		inner := module[1:]
		r.Shuffle(len(inner), func(i, k int) { inner[i], inner[k] = inner[k], inner[i] })
	}
	if swapped {
		one, other = other, one
	}
	return strings.Join(append(one, other...), "\n")
}

// P16.5: nor does the order of functions, of exports, of modules.
func TestOrderPlaysNoPart(t *testing.T) {
	events := 0
	for seed := range int64(150) {
		r := rand.New(rand.NewSource(seed))
		forms := luck.Forms(r.Intn, 2+int(seed%3))
		events += sameEvents(t, strings.Join(forms, "\n"), shuffledForms(r, forms, seed%2 == 0), 1000*seed)
	}
	if events < 2000 {
		t.Errorf("%d events: too few to tell", events)
	}
	forms := []string{"f(N) -> g(N).", "g(0) -> k:p({display(0)}); g(N) -> [h(N) | g(N - 1)].", "h(N) -> display(N)."}
	for _, order := range [][3]int{{0, 1, 2}, {0, 2, 1}, {1, 0, 2}, {1, 2, 0}, {2, 0, 1}, {2, 1, 0}} {
		m := "-module(m). -export([f/1]). " + forms[order[0]] + " " + forms[order[1]] + " " + forms[order[2]] + " "
		k := "-module(k). q(X) -> display(X). -export([p/1]). p(X) -> q(X). "
		for _, text := range []string{m + k, k + m} {
			trial{text, "f(2)", "display(2) 3; display(1) 6; display(0) 8; display({ok}) 11; end normal 11", nil}.hold(t)
		}
	}
}

// Rule 5: what is answered hangs on the text alone.
func TestAgain(t *testing.T) {
	for seed := range int64(20) {
		text := luck.Source(rand.New(rand.NewSource(seed)).Intn, 4)
		want := printed(t, made(t, text))
		for range 3 {
			if _, err := compile.Source("-module(m). f() -> X."); err == nil {
				t.Error("taken")
			}
			if got := printed(t, made(t, text)); got != want {
				t.Fatalf("%s: %s\n want %s", text, got, want)
			}
		}
	}
}
