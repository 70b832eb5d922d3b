package mail_test

import (
	"testing"

	"heddle/api"
	"heddle/mail"
)

// ahead are boxes as a Wait or an Expire may find them: with the cursor at each place, or with no message at all.
func ahead(t *testing.T, deadline int) map[string]*mail.Box {
	t.Helper()
	return map[string]*mail.Box{
		"empty": timed(t, mail.New(), deadline), "first": timed(t, open(t, 0, row(1, 3)...), deadline),
		"middle": timed(t, open(t, 1, row(1, 3)...), deadline), "behind": timed(t, open(t, 3, row(1, 3)...), deadline),
	}
}

// over is a view of the same messages with the cursor at the first place and no deadline.
func (v view) over() view { return view{messages: v.messages} }

// until is the same view with a deadline.
func (v view) until(deadline int) view { return view{v.messages, v.cursor, deadline, deadline != 0} }

// waits holds one Wait against what it is to answer, and what is to be seen behind it.
func waits(t *testing.T, what string, b *mail.Box, now int, x api.Term, ok bool, behind view) {
	t.Helper()
	if got, err := b.Wait(now, x); got != ok || err != nil {
		t.Fatalf("%s: Wait(%d, %v) = %t, %v, want %t", what, now, x, got, err, ok)
	}
	shows(t, what, b, behind)
}

// P17.3: without a deadline a process waits till now + t, for ever, or, where t is 0, not at all.
func TestWaitWithoutDeadline(t *testing.T) {
	for _, now := range clocks {
		for _, x := range spans() {
			for what, b := range ahead(t, 0) {
				waits(t, what, b, now, x, true, look(t, b).until(now+int(x.Int)))
			}
		}
		for _, x := range endless() {
			for what, b := range ahead(t, 0) {
				waits(t, what, b, now, x, true, look(t, b))
			}
		}
		for _, x := range naughts() {
			for what, b := range ahead(t, 0) {
				waits(t, what, b, now, x, false, look(t, b).over())
			}
		}
	}
}

// P17.3, P17.7: with a deadline that is to come a process waits on, till then; where t is 0 it does not.
func TestWaitWithDeadlineToCome(t *testing.T) {
	for _, now := range clocks {
		for _, deadline := range []int{now + 1, now + 2, now + 700, now + api.MaxClock} {
			for _, x := range append(spans(), endless()...) {
				for what, b := range ahead(t, deadline) {
					waits(t, what, b, now, x, true, look(t, b))
				}
			}
			for _, x := range naughts() {
				for what, b := range ahead(t, deadline) {
					waits(t, what, b, now, x, false, look(t, b).over())
				}
			}
		}
	}
}

// P17.3: a deadline that has just come, or that has gone by, ends the wait whatever t is, infinity too.
func TestWaitWithDeadlineThatHasCome(t *testing.T) {
	for _, now := range clocks {
		for _, deadline := range []int{now, now - 1, now - 2, now - 700, 1} {
			if deadline < 1 || deadline > now {
				continue
			}
			for _, x := range append(append(spans(), endless()...), naughts()...) {
				for what, b := range ahead(t, deadline) {
					waits(t, what, b, now, x, false, look(t, b).over())
				}
			}
		}
	}
}

// P17.3: a deadline beyond the clock's last time is set, and never comes.
func TestWaitBeyondTheClock(t *testing.T) {
	for _, from := range []int{1, api.MaxClock / 2, api.MaxClock} {
		b := open(t, 1, row(1, 2)...)
		waiting := look(t, b).until(from + api.MaxClock)
		waits(t, "set", b, from, num(api.MaxClock), true, waiting)
		for _, now := range clocks {
			waits(t, "beyond", b, now, num(3), true, waiting)
			waits(t, "beyond", b, now, word("infinity"), true, waiting)
			expires(t, "beyond", b, now, false, waiting)
		}
		waits(t, "0", b, api.MaxClock, num(0), false, waiting.over())
	}
}

// deadlines are none, and some that lie ahead of, at and behind every time.
var deadlines = []int{0, 1, 10, 11, api.MaxClock, api.MaxClock + 1, 2 * api.MaxClock}

// P17.3: a now that is none is refused, ahead of a t that is none; nothing changes.
func TestWaitRefusesNow(t *testing.T) {
	for _, now := range noClocks {
		for _, deadline := range deadlines {
			for what, b := range ahead(t, deadline) {
				before := look(t, b)
				for _, x := range append(append(append(spans(), endless()...), naughts()...), noTimes()...) {
					ok, err := b.Wait(now, x)
					refused(t, what, err, api.ErrRange)
					if ok {
						t.Errorf("%s: Wait(%d, %v) is true beside an error", what, now, x)
					}
				}
				shows(t, what, b, before)
			}
		}
	}
}

// P17.3: a t that is no time is refused, also where the deadline has come; nothing changes.
func TestWaitRefusesTime(t *testing.T) {
	for _, now := range clocks {
		for _, deadline := range deadlines {
			for what, b := range ahead(t, deadline) {
				before := look(t, b)
				for _, x := range noTimes() {
					ok, err := b.Wait(now, x)
					refused(t, what, err, api.ErrTimeout)
					if ok {
						t.Errorf("%s: Wait(%d, %v) is true beside an error", what, now, x)
					}
				}
				shows(t, what, b, before)
			}
		}
	}
}

// expires holds one Expire against what it is to answer, and what is to be seen behind it.
func expires(t *testing.T, what string, b *mail.Box, now int, over bool, behind view) {
	t.Helper()
	if got, err := b.Expire(now); got != over || err != nil {
		t.Fatalf("%s: Expire(%d) = %t, %v, want %t", what, now, got, err, over)
	}
	shows(t, what, b, behind)
}

// P17.4: a deadline that is not above now has come, and is no more; else nothing changes.
func TestExpire(t *testing.T) {
	for _, now := range clocks {
		for _, deadline := range append([]int{now - 1, now, now + 1}, deadlines...) {
			if deadline < 0 {
				continue
			}
			for what, b := range ahead(t, deadline) {
				before := look(t, b)
				if deadline == 0 || deadline > now {
					expires(t, what, b, now, false, before)
					continue
				}
				expires(t, what, b, now, true, before.over())
				expires(t, what+", again", b, now, false, before.over())
			}
		}
	}
}

// P17.4: a now that is none is refused; nothing changes.
func TestExpireRefuses(t *testing.T) {
	for _, now := range noClocks {
		for _, deadline := range deadlines {
			for what, b := range ahead(t, deadline) {
				before := look(t, b)
				over, err := b.Expire(now)
				refused(t, what, err, api.ErrRange)
				if over {
					t.Errorf("%s: Expire(%d) is true beside an error", what, now)
				}
				shows(t, what, b, before)
			}
		}
	}
}
