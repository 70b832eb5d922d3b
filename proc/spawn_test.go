package proc_test

import (
	"math"
	"strconv"
	"strings"
	"testing"

	"heddle/api"
	"heddle/proc"
	"heddle/sample"
)

// P20.1: any node's name, creations from 1 to 255: the pids have both.
func TestNew(t *testing.T) {
	c := source(t, standard)
	for _, node := range []string{"n@h", "a@h.i-j_k", "A-_9@9", "a@" + strings.Repeat("h", api.MaxName-2)} {
		for _, creation := range []uint32{1, 2, 254, 255} {
			x, err := proc.New(node, creation)
			done(t, "New", err)
			if got := lookAt(x, nil, nil); got != "living: \nqueue: \nended: \n" {
				t.Fatalf("a new table: %s", got)
			}
			for id := range uint32(3) {
				p, err := x.Spawn(c, "m", "spin", nil)
				if want := pid(node, creation, id+1, 0); err != nil || !sample.Same(p, want) {
					t.Fatalf("Spawn: %v, %v, want %v", p, err, want)
				}
			}
		}
	}
}

func TestNewRefused(t *testing.T) {
	name := under(api.Fault{Layer: "atom", Code: api.ErrName})
	for _, node := range []string{"", "n", "@", "n@", "@h", "n@h@i", "n h@i", "n@h\n", "é@h", "n@h\xff", "n@" + strings.Repeat("h", 63), strings.Repeat("n@h", 1<<15), "n.m@h"} {
		for _, creation := range []uint32{0, 1, 255, 256, math.MaxUint32} {
			if x, err := proc.New(node, creation); x != nil || !sample.IsFault(err, name...) {
				t.Errorf("New(%.20q, %d): %v, %v", node, creation, x, err)
			}
		}
	}
	for _, creation := range []uint32{0, 256, 257, 512, math.MaxInt32 + 1, math.MaxUint32} {
		if x, err := proc.New("n@h", creation); x != nil || !sample.IsFault(err, fault(api.ErrArg)) {
			t.Errorf("New(n@h, %d): %v, %v", creation, x, err)
		}
	}
}

// P20.1: ids are from 1 on in the order of Spawn, whoever ends meanwhile; who is new stands last in the queue.
func TestSpawn(t *testing.T) {
	play(t, open(t, ""), `
		spawn spin -> #1
		queue -> #1
		state #1 -> ready 0 1 0 true
		spawn wait 5 -> #2
		queue -> #1 #2
		run 10 0 -> #1 yield
		spawn quit {a,b} -> #3
		queue -> #2 #1 #3
		living -> #1 #2 #3
		run 10 0 -> #2 wait 5
		run 10 0 -> #1 yield
		run 10 0 -> #3 end {a,b}
		spawn ask -> #4
		living -> #1 #2 #4
		queue -> #1 #4
		exit #4 #1 boom link -> ended
		spawn spin -> #5
		queue -> #1 #5
		wake 5 -> 1
		spawn spin -> #6
		queue -> #1 #5 #2 #6
	`)
}

// P20.1: who calls what is not there or not exported raises undef when it runs; nobody is refused for it.
func TestSpawnUndef(t *testing.T) {
	play(t, open(t, ""), `
		spawn hidden 1 -> #1
		spawn nothing -> #2
		spawn quit -> #3
		spawn quit 1 2 -> #4
		state #1 -> ready 0 0 0 true
		run 10 0 -> #1 end undef
		run 10 0 -> #2 end undef
		run 10 0 -> #3 end undef
		run 10 0 -> #4 end undef
		ended -> #1 undef, #2 undef, #3 undef, #4 undef
	`)
	x := open(t, "")
	for _, names := range [][2]string{{"k", "spin"}, {"", ""}, {"\xff", "\xff"}, {strings.Repeat("m", 300), "spin"}} {
		_, err := x.Spawn(source(t, standard), names[0], names[1], nil)
		done(t, "Spawn", err)
		if _, event, err := x.Run(1, 0); err != nil || tellEvent(event) != "end undef" {
			t.Errorf("%.20q: %s, %v", names, tellEvent(event), err)
		}
	}
}

// P20.1: a process knows its own pid and its node's name.
func TestSpawnKnowsItself(t *testing.T) {
	x := open(t, "")
	c := source(t, "-module(m). -export([f/0]). f() -> exit({self(), node()}).")
	for range 3 {
		p, err := x.Spawn(c, "m", "f", nil)
		done(t, "Spawn", err)
		q, event, err := x.Run(10, 0)
		if err != nil || !sample.Same(p, q) || !sample.Same(event.Reason, tuple(p, word("n@h"))) {
			t.Errorf("%s %s: %s, %v", show(p), show(q), tellEvent(event), err)
		}
	}
}

// P20.1: what package vm refuses: its number at its place, its fault under; no id is spent.
func TestSpawnRefused(t *testing.T) {
	x := settled(t, "spin; wait")
	good := step{call: "spawn", code: source(t, standard), mod: "m", fun: "quit"}
	with := func(args ...api.Term) step {
		s := good
		s.args = args
		return s
	}
	for _, n := range sample.NoTerms() {
		for place := range 3 {
			args := sample.Ones(3)
			args[place] = n.Value
			chain := sample.Under("proc", place, sample.Under("vm", place, n.Chain))
			refused(t, x, with(args...), chain...)
			refused(t, x, with(append(args, api.Term{})...), chain...)
		}
	}
	refused(t, x, with(tuple(sample.Itself())), vmFault(api.Fault{Layer: "term", At: api.MaxDepth, Code: api.ErrDeep})...)
	for _, many := range []int{256, 1000} {
		refused(t, x, with(sample.Ones(many)...), under(api.Fault{Layer: "vm", Code: api.ErrArity})...)
		refused(t, x, with(make([]api.Term, many)...), under(api.Fault{Layer: "vm", Code: api.ErrArity})...)
	}
	wrong := with(api.Term{})
	wrong.code.Mods = append(wrong.code.Mods, api.Mod{Name: "k", Funs: []api.Fun{{Name: "f", Code: []api.Insn{{Op: api.CPop}}}}})
	place := 0
	for _, f := range good.code.Mods[0].Funs {
		place += len(f.Code)
	}
	flow := api.Fault{Layer: "code", At: place, Code: api.ErrFlow}
	refused(t, x, wrong, sample.Under("proc", place, sample.Under("vm", place, []api.Fault{flow}))...)
	wrong.code.Consts = append(sample.Ones(5), word("\xff"))
	utf := sample.Under("code", 5, sample.Under("term", 0, []api.Fault{{Layer: "atom", Code: api.ErrUTF}}))
	refused(t, x, wrong, sample.Under("proc", 5, sample.Under("vm", 5, utf))...)
	tells(t, x, with(num(1)), "#3")
	tells(t, x, with(append(sample.Ones(254), num(2))...), "#4")
}

// P20.1: 1024 may live, one more not, whatever else it is; one more behind an end.
func TestSpawnMany(t *testing.T) {
	x := open(t, "")
	good := step{call: "spawn", code: source(t, standard), mod: "m", fun: "wait"}
	wrong := good
	wrong.code, wrong.args = api.Code{Mods: []api.Mod{{Name: "\xff"}}}, make([]api.Term, 300)
	for id := range api.MaxProcs {
		tells(t, x, good, "#"+strconv.Itoa(id+1))
	}
	full := func() {
		t.Helper()
		if n, m := len(x.Living()), len(x.Queue()); n != api.MaxProcs || m > n {
			t.Fatalf("%d live, %d stand in the queue", n, m)
		}
		refused(t, x, good, fault(api.ErrMany))
		refused(t, x, wrong, fault(api.ErrMany))
	}
	full()
	for range 10 {
		_, _, err := x.Run(10, 0)
		done(t, "Run", err)
	}
	full() // those that wait live, too
	play(t, x, "exit #7 #7 boom link -> ended")
	tells(t, x, good, "#1025")
	full()
	play(t, x, "put #3 {go,home} -> true")
	for range api.MaxProcs - 10 + 1 {
		_, _, err := x.Run(10, 0)
		done(t, "Run", err)
	}
	full()
	play(t, x, "run 10 0 -> #3 end home\n queue ->")
	tells(t, x, good, "#1026")
	full()
}
