package vm_test

import (
	"strings"
	"testing"
)

// Chapter 15: CPeek puts the message at the cursor, and takes none away.
func TestPeek(t *testing.T) {
	v := hand(t, "none", "f 0 0: peek 2; raise 1; const 0; raise 1")
	play(t, v, "run 9 0: end none 0")
	v = hand(t, "none", "f 0 0: peek 2; raise 1; const 0; raise 1")
	play(t, v, "put {a,1}", "put b", "run 9 0: end {a,1} 0", "is: ended 0 0 [{a,1},b]")
}

// P18.2: CNext moves the cursor over a message, and not over none; it goes on at A. A message that comes behind the last one is at the cursor.
func TestNext(t *testing.T) {
	v := hand(t, "over", "f 0 0: next 1; next 2; peek 4; raise 1; const 0; raise 1")
	play(t, v, "run 9 0: end over 0")
	for _, x := range []struct{ messages, want string }{{"a", "over"}, {"a b", "over"}, {"a b c", "c"}, {"a b c d", "c"}} {
		v = hand(t, "over", "f 0 0: next 1; next 2; peek 4; raise 1; const 0; raise 1")
		for _, message := range strings.Fields(x.messages) {
			play(t, v, "put "+message)
		}
		play(t, v, "run 9 0: end "+x.want+" 0")
	}
	// It moves not where there is none: what comes then is at the cursor, and not behind it.
	v = hand(t, "over", "f 0 0: next 1; next 2; next 3; act 14; pop; peek 7; raise 1; const 0; raise 1")
	play(t, v, "put a", "run 9 0: nodes() 1", "put b", "put c", "resume x", "run 9 0: end b 0", "is: ended 1 0 [a,b,c]")
}

// Chapter 15: CTake takes the message at the cursor out; the cursor is at the first one, no deadline is set.
func TestTake(t *testing.T) {
	v := hand(t, "over", "f 0 0: next 1; take; peek 4; raise 1; const 0; raise 1")
	play(t, v, "put a", "put b", "put c", "run 9 0: end a 0", "is: ended 0 0 [a,c]")
	v = hand(t, "over", "f 0 0: take; take; peek 4; raise 1; const 0; raise 1")
	play(t, v, "put a", "put b", "put c", "run 9 0: end c 0", "is: ended 0 0 [c]")
	// The deadline that the first CWait set is gone with the message: the second one sets another.
	v = hand(t, "5 9 x", "f 0 0: const 0; wait 4; const 2; raise 0; take; const 1; wait 7; const 2; raise 1")
	play(t, v, "run 9 10: wait till 15 0", "put a", "run 9 11: wait till 20 0", "is: waiting 0 1 []", "run 9 19: wait till 20 0", "run 9 20: end x 0")
}

// P18.2: CTake without a message takes none; the cursor is at the first one, no deadline is set.
func TestTakeNothing(t *testing.T) {
	v := hand(t, "over", "f 0 0: take; const 0; raise 1")
	play(t, v, "run 9 0: end over 0")
	v = hand(t, "over", "f 0 0: next 1; take; peek 4; raise 1; const 0; raise 1")
	play(t, v, "put a", "run 9 0: end a 0", "is: ended 0 0 [a]")
	v = hand(t, "over", "f 0 0: next 1; next 2; take; peek 5; raise 1; const 0; raise 1")
	play(t, v, "put a", "put b", "run 9 0: end a 0", "is: ended 0 0 [a,b]")
	// A deadline: the first CWait's, which goes on at the message; behind that one nothing is to be taken.
	v = hand(t, "5 9 x", "f 0 0: const 0; wait 4; const 2; raise 0; next 5; take; const 1; wait 8; const 2; raise 1")
	play(t, v, "run 9 10: wait till 15 0", "put a", "run 9 11: wait till 20 0", "is: waiting 0 1 [a]", "run 9 12: end x 0")
}

// Chapter 15: which times a CWait takes.
func TestWaitTimes(t *testing.T) {
	for time, want := range map[string]string{
		"0": "end over 0", "1": "wait till 8 0", "5": "wait till 12 0", "1099511627776": "wait till 1099511627783 0", "infinity": "wait 0",
		"-1": "end {timeout_value,error} 0", "1099511627777": "end {timeout_value,error} 0", "576460752303423487": "end {timeout_value,error} 0", "foo": "end {timeout_value,error} 0", "{5}": "end {timeout_value,error} 0", "[]": "end {timeout_value,error} 0", "[5]": "end {timeout_value,error} 0", "<n@h.1.5.0>": "end {timeout_value,error} 0", "{}": "end {timeout_value,error} 0",
	} {
		v := hand(t, time+" over", "f 0 0: try 6; const 0; wait 3; done; const 1; raise 1; tuple 2; raise 1")
		play(t, v, "run 9 7: "+want)
	}
}

// P18.2: a process that waits goes on at A with a message at the cursor, behind the CWait when the deadline has come; with both at A; with neither it waits on.
func TestWaiting(t *testing.T) {
	for _, x := range [][]string{
		{"put a", "run 9 11: end a 0", "is: ended 0 0 [a]"},
		{"put a", "run 9 15: end a 0"}, {"put a", "run 9 20: end a 0"}, {"put a", "put b", "run 9 20: end a 0", "is: ended 0 0 [a,b]"},
		{"run 9 15: end over 0", "is: ended 0 0 []"}, {"run 9 16: end over 0"}, {"run 9 1099511627776: end over 0"},
		{"run 9 10: wait till 15 0", "run 9 14: wait till 15 0", "is: waiting 0 1 []", "put a", "is: waiting 0 1 [a]", "run 9 14: end a 0"},
		{"run 9 14: wait till 15 0", "run 9 14: wait till 15 0", "run 9 15: end over 0"},
	} {
		v := hand(t, "5 over", "f 0 0: const 0; wait 4; const 1; raise 1; peek 6; raise 1; const 1; raise 0")
		play(t, v, append([]string{"run 9 10: wait till 15 0", "is: waiting 0 1 []", "resume a !360", "raise exit a !360"}, x...)...)
	}
	v := hand(t, "infinity over", "f 0 0: const 0; wait 4; const 1; raise 1; peek 6; raise 1; const 1; raise 0")
	play(t, v, "run 9 10: wait 0", "run 9 1099511627776: wait 0", "is: waiting 0 1 []", "put a", "run 9 1099511627776: end a 0")
	// A message that lies ahead of the cursor is none for which it waits.
	v = hand(t, "5 over", "f 0 0: next 1; const 0; wait 5; const 1; raise 1; peek 7; raise 1; const 1; raise 0")
	play(t, v, "put a", "run 9 0: wait till 5 0", "run 9 4: wait till 5 0", "put b", "run 9 4: end b 0", "is: ended 0 0 [a,b]")
}

// P18.2: the time is over: the cursor is at the first message, and no deadline is set.
func TestWaitOver(t *testing.T) {
	v := hand(t, "5 over 3", "f 0 0: next 1; const 0; wait 3; peek 6; act 16; pop; const 2; wait 8; const 1; raise 1")
	play(t, v, "put a", "run 9 0: wait till 5 0", "run 9 6: display(a) 1", "resume x", "run 9 6: wait till 9 0", "put c", "run 9 6: end over 0", "is: ended 1 0 [a,c]")
	// With 0 at once.
	v = hand(t, "0 over", "f 0 0: next 1; const 0; wait 3; peek 5; raise 1; const 1; raise 1")
	play(t, v, "put a", "run 9 0: end a 0")
}

// Chapter 15: a deadline that is set stays, whatever a later CWait says; if it has come, that one does not wait.
func TestWaitAgain(t *testing.T) {
	again := func(second string) []string {
		return []string{"5 over " + second, "f 0 0: const 0; wait 4; const 1; raise 0; next 5; const 2; wait 7; const 1; raise 1"}
	}
	for _, second := range []string{"100", "1", "infinity"} {
		x := again(second)
		v := hand(t, x[0], x[1:]...)
		play(t, v, "run 9 10: wait till 15 0", "put a", "run 9 12: wait till 15 0", "run 9 14: wait till 15 0", "run 9 15: end over 0")
		v = hand(t, x[0], x[1:]...)
		play(t, v, "run 9 10: wait till 15 0", "put a", "run 9 15: end over 0")
		v = hand(t, x[0], x[1:]...)
		play(t, v, "run 9 10: wait till 15 0", "put a", "run 9 16: end over 0")
	}
	x := again("0")
	play(t, hand(t, x[0], x[1:]...), "run 9 10: wait till 15 0", "put a", "run 9 12: end over 0")
	x = again("foo")
	play(t, hand(t, x[0], x[1:]...), "run 9 10: wait till 15 0", "put a", "run 9 16: end timeout_value 0")
}

// P18.2: a CWait waits also with a message at the cursor: the next Run finds it.
func TestWaitWithMessage(t *testing.T) {
	v := hand(t, "5 over", "f 0 0: const 0; wait 4; const 1; raise 1; peek 6; raise 1; const 1; raise 0")
	play(t, v, "put a", "run 9 10: wait till 15 0", "is: waiting 0 1 [a]", "run 9 10: end a 0")
}

// P18.2: receives of programs: a message that fits is taken wherever it stands, others stay; a new one is looked at alone.
func TestReceives(t *testing.T) {
	forms := "f(X) -> receive {X, Y} when Y > 1 -> exit(Y) after 10 -> exit(late) end."
	play(t, text(t, forms, "a"), "put b", "put {a,1}", "run 100 5: wait till 15 2", "is: waiting 2 1 [b,{a,1}]", "put {b,2}", "run 100 14: wait till 15 1", "put {a,3}", "put {a,4}", "run 100 15: end 3 0", "is: ended 3 0 [b,{a,1},{b,2},{a,4}]")
	play(t, text(t, forms, "a"), "put b", "run 1 5: wait till 15 1", "run 1 15: end late 0", "is: ended 1 0 [b]")
	play(t, text(t, forms, "a"), "put b", "put c", "run 1 5: yield 1", "run 1 5: wait till 15 1", "put d", "put e", "run 1 15: yield 1", "run 1 15: end late 1", "is: ended 4 0 [b,c,d,e]")
	play(t, text(t, "f() -> receive X -> X end, receive Y -> exit(Y) end."), "run 1 0: wait 0", "put a", "put b", "run 1 0: end b 0", "is: ended 0 0 []")
}
