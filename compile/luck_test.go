package compile_test

import (
	"math/rand"
	"testing"

	"heddle/api"
	"heddle/compile"
	"heddle/luck"
	"heddle/parse"
)

// someCall is one of module m's functions of programs of chance; h is not exported.
func someCall(r *rand.Rand) (string, []api.Term) {
	name := "f"
	switch r.Intn(20) {
	case 0:
		name = "h"
	case 1, 2, 3:
		name = "g"
	}
	var args []api.Term
	for range map[string]int{"f": 1 + r.Intn(2), "g": 0, "h": 1}[name] {
		args = append(args, luck.Term(r.Intn, 2))
	}
	return name, args
}

// holdLuck holds what is seen of a text's code against what is seen of its tree, by some calls.
func holdLuck(t testing.TB, text string, c api.Code, seed int64, often int) int {
	l, root, err := parse.Text(text)
	if err != nil {
		t.Fatal(err)
	}
	tree, events := tellerOf(t, l, root), 0
	for k := range int64(often) {
		fun, args := someCall(rand.New(rand.NewSource(seed + k)))
		got := byLuck(seed + k)
		told := watch(got, byCode(c, "m", fun, args))
		want := watch(byLuck(seed+k), tree.byTree("m", fun, args))
		if told != want {
			t.Fatalf("%s\n seed %d: %s %v: %s\n want %s", text, seed+k, fun, args, cut(told), cut(want))
		}
		events += len(got.seen)
	}
	return events
}

// P16.2: programs of chance do what their trees say, whatever comes.
func TestByLuck(t *testing.T) {
	programs, events := 1200, 0
	if testing.Short() {
		programs = 100
	}
	for seed := range int64(programs) {
		text := luck.Source(rand.New(rand.NewSource(seed)).Intn, 2+int(seed%3))
		events += holdLuck(t, text, made(t, text), 1000*seed, 20)
	}
	if events < 50*programs {
		t.Errorf("%d events of %d programs: too few to tell", events, programs)
	}
}

// FuzzSource: any text is refused or has code that is well formed and does what its tree says.
func FuzzSource(f *testing.F) {
	for seed := range int64(20) {
		f.Add(luck.Source(rand.New(rand.NewSource(seed)).Intn, 2+int(seed%3)), seed)
	}
	f.Add("-module(m). -export([f/1]). f(X) -> receive {X, Y} -> Y after Y = X -> Y end.", int64(1))
	f.Fuzz(func(t *testing.T, text string, seed int64) {
		c, err := compile.Source(text)
		if err != nil {
			return
		}
		well(t, text, c)
		holdLuck(t, text, c, seed&0xffff, 3)
	})
}
