package proc_test

import (
	"math/rand"
	"strings"
	"testing"

	"heddle/api"
	"heddle/proc"
	"heddle/sample"
)

// once is who was told by Spawn.
type once map[string]int

// broken says what of P20.11 does not hold behind a call: no pid is told twice, who has ended neither lives nor has a name, the queue holds nobody twice, and nobody who does not live.
func (o once) broken(x *proc.Table, pid, call string) string {
	if call == "spawn" && pid != "-" {
		o[pid]++
		if o[pid] > 1 {
			return pid + " is told twice"
		}
	}
	standing := map[string]int{}
	for _, p := range x.Living() {
		standing[show(p)]++
	}
	for _, p := range x.Queue() {
		if standing[show(p)] != 1 {
			return show(p) + " stands in the queue twice, or does not live"
		}
		standing[show(p)]++
	}
	for _, name := range names {
		if p, ok := x.Whereis(name); ok && standing[show(p)] == 0 {
			return show(p) + " does not live and has the name " + name
		}
	}
	for _, d := range x.Ended() {
		_, lives := x.State(d.Pid)
		_, named := x.Name(d.Pid)
		if lives || named || standing[show(d.Pid)] > 0 {
			return show(d.Pid) + " has ended, but lives or has a name"
		}
	}
	return ""
}

// between are calls at which nobody ends, is woken or spawned: of the first ones, which yield, of one that waits, of one that is parked, of nobody, and such as are refused.
func between(r *rand.Rand, yielding, waits, parked int) step {
	p := own(1 + r.Intn(yielding))
	return []step{
		{call: "put", p: p, x: word("m")},
		{call: "put", p: own(parked), x: word("m")},
		{call: "put", p: own(99), x: word("m")},
		{call: "put", p: own(waits), x: api.Term{}},
		{call: "trap", p: p, yes: true},
		{call: "exit", p: own(waits), from: p, x: word("normal")},
		{call: "exit", p: own(99), from: p, x: word("kill")},
		{call: "exit", p: own(waits), from: word("a"), x: word("kill")},
		{call: "register", p: p, word: names[r.Intn(len(names))]},
		{call: "unregister", word: names[r.Intn(len(names))]},
		{call: "answer", p: p, x: word("a")},
		{call: "fail", p: p, word: "exit", x: word("a")},
		{call: "fail", p: own(parked), word: "none", x: word("a")},
		{call: "park", p: p},
		{call: "park", p: own(parked)},
		{call: "wake", now: r.Intn(40)},
		{call: "run", budget: 0, now: 40},
		{call: "run", budget: 1, now: -1},
		{call: "spawn", args: make([]api.Term, 300)},
	}[r.Intn(19)]
}

// P20.10: as long as nobody ends, is woken or spawned, those that yield run one behind the other, in turn, whatever budgets they have and whatever is called between their runs.
func TestInTurn(t *testing.T) {
	for seed := range int64(40) {
		r := rand.New(rand.NewSource(seed))
		yielding := 1 + r.Intn(20)
		waits, parked := yielding+1, yielding+2
		x := settled(t, strings.Repeat("spin;", yielding)+"wait 50; ask; wait; quit a")
		done(t, "Park", x.Park(own(parked)))
		now, last, budget := 0, 0, 1+r.Intn(30)
		for n := range 20 * yielding {
			for range r.Intn(4) {
				s := between(r, yielding, waits, parked)
				if a, err := s.perform(x); err == nil && s.call == "wake" {
					now = s.now
				} else if a.n > 0 || a.exit == api.ExitEnded {
					t.Fatalf("%v: %+v, %v", s, a, err)
				}
			}
			p, event, err := x.Run(budget, now)
			if n == 0 {
				last = int(p.Nums[0]) - 1
			}
			if err != nil || event.Kind != api.EvYield || !sample.Same(p, own(last%yielding+1)) || len(x.Queue()) != yielding {
				t.Fatalf("%d of %d yields, then %s %s, %v", last, yielding, show(p), tellEvent(event), err)
			}
			last, budget = int(p.Nums[0]), 1+r.Intn(30)
		}
	}
}

// P20.10: so they do when one that waits is among them, which runs no more; and behind one that ends, is woken or spawned, all of them go on in turn.
func TestInTurnAgain(t *testing.T) {
	play(t, settled(t, "spin; spin; wait 5; spin; ask"), `
		queue -> #1 #2 #4 #5
		park #5 ->
		run 3 0 -> #1 yield
		run 9 0 -> #2 yield
		run 1 0 -> #4 yield
		run 3 0 -> #1 yield
		spawn spin -> #6
		wake 5 -> 1
		run 3 5 -> #2 yield
		run 3 5 -> #4 yield
		run 3 5 -> #1 yield
		run 3 5 -> #6 yield
		run 3 5 -> #3 end late
		run 3 5 -> #2 yield
		exit #4 #1 boom link -> ended
		answer #5 [] ->
		run 3 5 -> #1 yield
		run 3 5 -> #6 yield
		run 3 5 -> #2 yield
		run 3 5 -> #5 end {answer,[]}
		run 3 5 -> #1 yield
		run 3 5 -> #6 yield
		run 3 5 -> #2 yield
		run 3 5 -> #1 yield
	`)
}

// P20.11: of thousands that are spawned and end, each has its own pid, and who has ended does not come back: no call makes it live or gives it a name.
func TestOnce(t *testing.T) {
	x, o := open(t, "wait"), once{}
	spawn := step{call: "spawn", code: source(t, standard), mod: "m", fun: "quit", args: []api.Term{word("a")}}
	for n := range 3000 {
		a, err := spawn.perform(x)
		done(t, "Spawn", err)
		done(t, "Register", x.Register("a", a.pid))
		if n%2 == 0 {
			tells(t, x, step{call: "exit", p: a.pid, from: own(1), x: word("kill"), yes: n%4 == 0}, "ended")
		} else {
			for q, event, err := x.Run(9, 0); !sample.Same(q, a.pid); q, event, err = x.Run(9, 0) {
				if err != nil {
					t.Fatalf("%s %s, %v", show(q), tellEvent(event), err)
				}
			}
		}
		o[show(a.pid)]++
		if n > 20 && n%500 > 0 {
			continue
		}
		for _, s := range []step{{call: "register", word: "a"}, {call: "answer", x: word("a")}, {call: "put", x: word("a")}, {call: "trap", yes: true}, {call: "exit", from: own(1), x: word("a")}, {call: "wake"}} {
			s.p = a.pid
			_, _ = s.perform(x)
			if text := o.broken(x, show(a.pid), ""); text != "" {
				t.Fatal(text)
			}
		}
	}
	for text, n := range o {
		if _, lives := x.State(val(text)); lives || n != 1 {
			t.Errorf("%s is told %d times; it lives: %t", text, n, lives)
		}
	}
	if len(o) != 3000 || showAll(x.Living()) != "#1" {
		t.Errorf("%d pids; %s live", len(o), showAll(x.Living()))
	}
}
