package proc

import (
	"testing"

	"heddle/api"
	"heddle/compile"
	"heddle/sample"
)

// open is a table with a program.
func open(t *testing.T) (*Table, api.Code) {
	t.Helper()
	x, err := New("n@h", 3)
	if err != nil {
		t.Fatal(err)
	}
	c, err := compile.Source("-module(m). -export([f/0, g/0]). f() -> f(). g() -> receive a -> a after 5 -> b end.")
	if err != nil {
		t.Fatal(err)
	}
	return x, c
}

// P20.1: MaxSpawns are spawned, one more not, whoever ends; ahead of that stands that too many live, behind it what package vm refuses.
func TestMaxSpawns(t *testing.T) {
	x, c := open(t)
	x.spawned = api.MaxSpawns - 3
	spawn := func(c api.Code, args []api.Term, chain ...api.Fault) api.Term {
		t.Helper()
		p, err := x.Spawn(c, "m", "f", args)
		if !sample.IsFault(err, chain...) || chain != nil && !sample.IsZero(p) {
			t.Fatalf("Spawn: %v, %v, want %v", p, err, chain)
		}
		return p
	}
	end := api.Fault{Layer: layer, Code: api.ErrEnd}
	wrong := make([]api.Term, 300)
	for id := uint32(api.MaxSpawns - 2); id <= api.MaxSpawns; id++ {
		spawn(c, wrong, sample.Under(layer, 0, []api.Fault{{Layer: "vm", Code: api.ErrArity}})...)
		if p := spawn(c, nil); !sample.Same(p, sample.Pid("n@h", 3, id, 0)) {
			t.Fatalf("%v, want the id %d", p, id)
		}
	}
	for range 3 {
		spawn(c, nil, end)
		spawn(c, wrong, end)
		spawn(api.Code{Mods: []api.Mod{{Name: "\xff"}}}, nil, end)
		if len(x.Living()) == 0 {
			break
		}
		for _, p := range x.Living() {
			if kind, err := x.Exit(p, p, p, true); kind != api.ExitEnded || err != nil {
				t.Fatalf("Exit: %v, %v", kind, err)
			}
		}
	}

	x, _ = open(t)
	x.spawned = api.MaxSpawns - api.MaxProcs
	for range api.MaxProcs {
		spawn(c, nil)
	}
	spawn(c, nil, api.Fault{Layer: layer, Code: api.ErrMany})
	p := x.Living()[0]
	if kind, err := x.Exit(p, p, p, true); kind != api.ExitEnded || err != nil {
		t.Fatalf("Exit: %v, %v", kind, err)
	}
	spawn(c, nil, end)
}

// What has ended is kept nowhere but among the ended ones, of which no more are kept than are told.
func TestForgets(t *testing.T) {
	x, c := open(t)
	for n := range 3 * api.MaxEnded {
		p, err := x.Spawn(c, "m", []string{"f", "g"}[n%2], nil)
		if err != nil || x.Register("a", p) != nil {
			t.Fatal(err)
		}
		if n%3 > 0 {
			if _, _, err := x.Run(1, 0); err != nil {
				t.Fatal(err)
			}
		}
		if n%2 == 1 && n%3 > 0 && len(x.sleepers) != 1 {
			t.Fatalf("sleepers: %v", x.sleepers)
		}
		if n%4 == 1 && n%3 > 0 {
			if ok, err := x.Put(p, sample.Atom("b")); !ok || err != nil || len(x.sleepers) > 0 {
				t.Fatalf("%t, %v; sleepers: %v", ok, err, x.sleepers)
			}
		}
		if kind, err := x.Exit(p, p, p, true); kind != api.ExitEnded || err != nil {
			t.Fatalf("Exit: %v, %v", kind, err)
		}
		if len(x.living)+len(x.names)+len(x.sleepers)+len(x.queue) > 0 || len(x.ended) > api.MaxEnded || cap(x.ended) > 3*api.MaxEnded {
			t.Fatalf("%d: %d live, %d names, %d sleepers, %d stand in the queue, %d have ended, there is room for %d", n, len(x.living), len(x.names), len(x.sleepers), len(x.queue), len(x.ended), cap(x.ended))
		}
	}
}

// The keys of a shelf rise, whatever the order in which they came.
func TestShelf(t *testing.T) {
	s := shelf[int, int]{}
	for n := range 1000 {
		s[n*7919%1000] = n
	}
	for i, key := range s.keys() {
		if i != key {
			t.Fatalf("the key %d stands at %d", key, i)
		}
		s.drop(key)
	}
	if len(s) > 0 {
		t.Errorf("%d are left", len(s))
	}
}

// What is no fault is not wrapped.
func TestWrap(t *testing.T) {
	if err := wrap(0, nil); err != nil {
		t.Error(err)
	}
}
