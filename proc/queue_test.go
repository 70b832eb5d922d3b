package proc_test

import (
	"math"
	"testing"

	"heddle/api"
	"heddle/proc"
	"heddle/sample"
)

// P20.2: those whose time has come, by that time, those of one time by their ids, whatever the order in which they began to wait.
func TestWake(t *testing.T) {
	x := open(t, "wait 9; wait 5; wait; wait 5; wait 1000; wait 7; spin")
	play(t, x, `
		turn ->
		turn ->
		turn ->
		run 10 0 -> #4 wait 5
		run 10 0 -> #5 wait 1000
		run 10 0 -> #6 wait 7
		run 10 0 -> #7 yield
		run 10 0 -> #1 wait 9
		run 10 0 -> #2 wait 5
		run 10 0 -> #3 wait
		wake 4 -> 0
		queue -> #7
		wake 5 -> 2
		queue -> #7 #2 #4
		wake 5 -> 0
		state #2 -> waiting 0 1 0 true
		wake 9 -> 2
		queue -> #7 #2 #4 #6 #1
		run 10 9 -> #7 yield
		run 10 9 -> #2 end late
		run 10 9 -> #4 end late
		run 10 9 -> #6 end late
		run 10 9 -> #1 end late
		wake 999 -> 0
		wake 1099511627776 -> 1
		queue -> #7 #5
		wake 1099511627776 -> 0
		run 10 1099511627776 -> #7 yield
		run 10 1099511627776 -> #5 end late
		living -> #3 #7
		state #3 -> waiting 0 1 0 true
	`)
	play(t, settled(t, "wait 3; wait 2; wait 1; wait 2; wait 3; wait 1"), "wake 2 -> 4\n queue -> #3 #6 #2 #4\n wake 3 -> 2\n queue -> #3 #6 #2 #4 #1 #5")
}

// P20.2: a time is not above MaxClock because a wait goes on beyond it: nobody wakes such a process.
func TestWakeBeyondTheClock(t *testing.T) {
	play(t, open(t, "wait 1099511627776; wait 1099511627776"), `
		run 10 0 -> #1 wait 1099511627776
		run 10 1 -> #2 wait 1099511627777
		wake 1099511627775 -> 0
		wake 1099511627776 -> 1
		queue -> #1
	`)
}

// P20.2: one that stands in the queue since a message was put is not woken, and keeps its place; if it goes on waiting, its time is as it was.
func TestWakeOfQueued(t *testing.T) {
	play(t, settled(t, "wait 5; wait 5; wait 5"), `
		put #2 other -> true
		queue -> #2
		wake 3 -> 0
		run 10 4 -> #2 wait 5
		queue ->
		put #3 other -> true
		wake 5 -> 2
		queue -> #3 #1 #2
		wake 6 -> 0
		put #1 {go,done} -> true
		queue -> #3 #1 #2
		run 10 6 -> #3 end late
		run 10 6 -> #1 end done
		run 10 6 -> #2 end late
		wake 1000 -> 0
	`)
	// One whose time has gone by while it stands in the queue goes on there.
	play(t, settled(t, "wait 5"), `
		put #1 other -> true
		wake 100 -> 0
		run 10 100 -> #1 end late
	`)
	// A wait that has ended is forgotten.
	play(t, settled(t, "wait 5; wait 6"), `
		put #1 {go,done} -> true
		run 10 0 -> #1 end done
		exit #2 #2 boom link -> ended
		wake 10 -> 0
		queue ->
	`)
}

// P20.2: a process that waits again waits till its new time.
func TestWakeAgain(t *testing.T) {
	x := open(t, "")
	c := source(t, "-module(m). -export([f/0]). f() -> receive a -> 1 after 5 -> 1 end, receive a -> 1 end, receive a -> 1 after 3 -> f() end.")
	_, err := x.Spawn(c, "m", "f", nil)
	done(t, "Spawn", err)
	play(t, x, `
		run 10 0 -> #1 wait 5
		put #1 a -> true
		run 10 4 -> #1 wait
		wake 5 -> 0
		wake 100 -> 0
		put #1 a -> true
		run 10 100 -> #1 wait 103
		wake 102 -> 0
		wake 103 -> 1
		run 10 104 -> #1 wait 109
		wake 108 -> 0
		wake 110 -> 1
	`)
}

// noClocks are what now may not be at the time 10.
var noClocks = []int{-1, math.MinInt, 9, 0, api.MaxClock + 1, math.MaxInt}

// P20.2, P20.3: times may not go back, whichever of both calls they were handed in to; a call that is refused has been at no time.
func TestClock(t *testing.T) {
	late := func(x *proc.Table) {
		t.Helper()
		for _, now := range noClocks {
			for _, budget := range []int{10, 0, -1} {
				refused(t, x, step{call: "run", budget: budget, now: now}, fault(api.ErrRange))
			}
			refused(t, x, step{call: "wake", now: now}, fault(api.ErrRange))
		}
	}
	for _, calls := range []string{"spin", "wait 3"} {
		x := open(t, calls)
		tells(t, x, step{call: "wake", now: 10}, "0")
		late(x)
		tells(t, x, step{call: "wake", now: 10}, "0")

		x = open(t, calls)
		_, _, err := x.Run(10, 10)
		done(t, "Run", err)
		late(x)
		tells(t, x, step{call: "wake", now: 10}, "0")
	}
	// Nobody is in the queue: that comes behind the time.
	x := open(t, "")
	tells(t, x, step{call: "wake", now: 10}, "0")
	late(x)
	refused(t, x, step{call: "run", budget: 1, now: 11}, fault(api.ErrNone))
	tells(t, x, step{call: "wake", now: 10}, "0")

	x = settled(t, "asks")
	tells(t, x, step{call: "wake", now: 10}, "0")
	for _, s := range []step{{call: "run", budget: 0, now: 20}, {call: "run", budget: 1, now: 20}, {call: "wake", now: api.MaxClock + 1}, {call: "run", budget: 1, now: api.MaxClock + 1}} {
		if _, err := s.perform(x); err == nil {
			t.Fatalf("%v is not refused", s)
		}
		late(x)
		tells(t, x, step{call: "wake", now: 10}, "0")
	}
	tells(t, x, step{call: "wake", now: api.MaxClock}, "0")
	refused(t, x, step{call: "wake", now: api.MaxClock - 1}, fault(api.ErrRange))
}

// P20.3: each kind of event, and where the process stands behind it.
func TestRun(t *testing.T) {
	play(t, open(t, "spin; wait 5; ask; quit {a,b}; wait; spin"), `
		run 7 0 -> #1 yield
		state #1 -> ready 7 1 0 true
		queue -> #2 #3 #4 #5 #6 #1
		run 10 1 -> #2 wait 6
		state #2 -> waiting 0 1 0 true
		queue -> #3 #4 #5 #6 #1
		run 10 1 -> #3 nodes()
		state #3 -> asked 1 1 0 true
		queue -> #3 #4 #5 #6 #1
		run 10 1 -> !360
		answer #3 [] ->
		queue -> #3 #4 #5 #6 #1
		run 10 1 -> #3 end {answer,[]}
		living -> #1 #2 #4 #5 #6
		queue -> #4 #5 #6 #1
		run 10 1 -> #4 end {a,b}
		run 10 1 -> #5 wait
		run 1048576 1 -> #6 yield
		state #6 -> ready 1048576 1 0 true
		queue -> #1 #6
		ended -> #3 {answer,[]}, #4 {a,b}
	`)
	// Behind each of its events one that is alone is in its queue, too, or in none.
	play(t, open(t, "spin"), "run 1 0 -> #1 yield\n queue -> #1\n turn ->\n queue -> #1\n run 1 0 -> #1 yield")
	play(t, open(t, "wait"), "run 1 0 -> #1 wait\n queue ->\n run 1 0 -> !7\n turn -> !7")
	play(t, open(t, "quit normal"), "run 1 0 -> #1 end normal\n queue ->\n living ->\n run 1 0 -> !7")
}

// P20.3: the event is that of package vm, whole.
func TestEvent(t *testing.T) {
	x := open(t, "wait 5; asks; quit a; spin")
	for _, want := range []api.Event{
		{Kind: api.EvWait, Until: 6, Timed: true}, {Kind: api.EvAct, Name: "nodes", Used: 1}, {Kind: api.EvEnd, Reason: word("a")}, {Kind: api.EvYield, Used: 3},
	} {
		_, event, err := x.Run(3, 1)
		if err != nil || !sample.SameEvent(event, want) {
			t.Errorf("%+v, %v, want %+v", event, err, want)
		}
		if want.Kind == api.EvAct {
			done(t, "Turn", x.Turn())
		}
	}
}

// P20.3: what package vm refuses, behind a time that is wrong and an empty queue: its fault under; nothing is changed.
func TestRunRefused(t *testing.T) {
	for _, budget := range []int{0, -1, math.MinInt, api.MaxBudget + 1, math.MaxInt} {
		x := open(t, "spin; wait 5")
		tells(t, x, step{call: "wake", now: 10}, "0")
		refused(t, x, step{call: "run", budget: budget, now: 12}, under(api.Fault{Layer: "vm", Code: api.ErrArg})...)
		refused(t, x, step{call: "run", budget: budget, now: 9}, fault(api.ErrRange))
		play(t, x, "run 10 10 -> #1 yield")
		// One that wants an answer is asked for its budget first.
		y := settled(t, "asks")
		refused(t, y, step{call: "run", budget: budget}, under(api.Fault{Layer: "vm", Code: api.ErrArg})...)
		refused(t, y, step{call: "run", budget: 1}, under(api.Fault{Layer: "vm", Code: api.ErrAsked})...)
		refused(t, open(t, ""), step{call: "run", budget: budget, now: 3}, fault(api.ErrNone))
	}
	for _, budget := range []int{1, api.MaxBudget} {
		x := open(t, "spin")
		a, err := step{call: "run", budget: budget}.perform(x)
		if err != nil || !sample.SameEvent(a.event, api.Event{Kind: api.EvYield, Used: budget}) {
			t.Errorf("%+v, %v", a, err)
		}
	}
}

// P20.4: an answer, to one in the queue, wherever it stands there, and to one that was parked.
func TestAnswer(t *testing.T) {
	x := settled(t, "asks; ask; asks")
	play(t, x, `
		queue -> #1 #2 #3
		answer #2 {a,[b]} ->
		queue -> #1 #2 #3
		state #2 -> ready 1 1 0 true
		answer #2 a -> !360
		fail #2 exit a -> !360
		park #2 -> !360
		park #1 ->
		queue -> #2 #3
		run 10 0 -> #2 end {answer,{a,[b]}}
		answer #1 [] ->
		queue -> #3 #1
		fail #3 throw ball ->
		queue -> #3 #1
		run 10 0 -> #3 end {nocatch,ball}
		run 10 0 -> #1 nodes()
		fail #1 exit boom ->
		run 10 0 -> #1 end boom
	`)
	play(t, settled(t, "ask; spin; ask"), `
		park #1 ->
		park #3 ->
		fail #3 error bad ->
		queue -> #2 #3
		fail #1 exit bad ->
		queue -> #2 #3 #1
		run 10 0 -> #2 yield
		run 10 0 -> #3 end bad
		run 10 0 -> #1 end bad
	`)
}

// P20.4: of a process that is not asked: it is new, has yielded, waits, stands in the queue and waits, was answered.
func TestNotAsked(t *testing.T) {
	for _, x := range []*proc.Table{open(t, "ask"), settled(t, "spin"), settled(t, "wait"), settled(t, "wait 5"), open(t, "ask; spin")} {
		for range 2 {
			for _, y := range []api.Term{word("x"), {}} {
				asked := under(api.Fault{Layer: "vm", Code: api.ErrAsked})
				refused(t, x, step{call: "answer", p: own(1), x: y}, asked...)
				for _, class := range []string{"exit", "none"} {
					refused(t, x, step{call: "fail", p: own(1), word: class, x: y}, asked...)
				}
			}
			refused(t, x, step{call: "park", p: own(1)}, fault(api.ErrAsked))
			tells(t, x, step{call: "put", p: own(1), x: word("x")}, "true")
		}
	}
}

// P20.4: answers and reasons that are no terms, classes that are none: package vm's fault under.
func TestAnswerRefused(t *testing.T) {
	for _, calls := range []string{"ask", "ask; spin"} {
		for _, parked := range []bool{false, true} {
			x := settled(t, calls)
			if parked {
				done(t, "Park", x.Park(own(1)))
			}
			for _, n := range sample.NoTerms() {
				refused(t, x, step{call: "answer", p: own(1), x: n.Value}, vmFault(n.Chain...)...)
				for _, class := range []string{"error", "exit", "throw"} {
					refused(t, x, step{call: "fail", p: own(1), word: class, x: n.Value}, vmFault(n.Chain...)...)
				}
			}
			for _, class := range []string{"", "Error", "exit ", "normal", "\xff", "resume"} {
				for _, reason := range []api.Term{word("x"), {}} {
					refused(t, x, step{call: "fail", p: own(1), word: class, x: reason}, under(api.Fault{Layer: "vm", Code: api.ErrArg})...)
				}
			}
			play(t, x, "answer #1 [] ->")
		}
	}
}

// P20.4: one that is parked is in no queue, till it is answered, whatever else comes: messages do not wake it, nor does time.
func TestPark(t *testing.T) {
	play(t, settled(t, "ask; asks; spin"), `
		park #2 ->
		queue -> #1 #3
		park #2 ->
		queue -> #1 #3
		state #2 -> asked 1 1 0 true
		put #2 hello -> true
		messages #2 -> hello
		wake 100 -> 0
		trap #2 yes -> false
		exit #2 #1 boom link -> message
		queue -> #1 #3
		messages #2 -> hello {'EXIT',<n@h.3.1.0>,boom}
		park #1 ->
		queue -> #3
		run 10 100 -> #3 yield
		answer #2 [] ->
		queue -> #3 #2
		turn ->
		queue -> #2 #3
		run 10 100 -> #2 nodes()
		park #2 ->
		exit #2 #2 kill nolink -> ended
		answer #2 [] -> !400
		living -> #1 #3
		queue -> #3
	`)
}

// P20.4: Turn, of a queue of none, one, some; whatever the first one is about to do.
func TestTurn(t *testing.T) {
	play(t, open(t, ""), "turn -> !7")
	play(t, settled(t, "wait"), "turn -> !7")
	play(t, settled(t, "spin; ask; wait; quit a"), `
		queue -> #1 #2
		turn ->
		queue -> #2 #1
		turn ->
		queue -> #1 #2
		put #3 hello -> true
		turn ->
		queue -> #2 #3 #1
		turn ->
		queue -> #3 #1 #2
		turn ->
		queue -> #1 #2 #3
		state #3 -> waiting 0 1 1 true
		wake 10 -> 0
		run 10 10 -> #1 yield
		turn ->
		run 10 10 -> #3 wait
		queue -> #1 #2
	`)
}
