package mail_test

import (
	"math/rand"
	"slices"
	"testing"

	"heddle/api"
	"heddle/mail"
	"heddle/sample"
)

// receive goes over a box as a receive does: the first message from the cursor on that fits is taken. False: none fits, and the process waits, or the time is over.
func receive(t *testing.T, b *mail.Box, now int, x api.Term, fits func(api.Term) bool) (api.Term, bool) {
	t.Helper()
	for {
		message, there := b.Peek()
		if !there {
			_, err := b.Wait(now, x)
			done(t, "Wait", err)
			return api.Term{}, false
		}
		if fits(message) {
			taken, err := b.Take()
			done(t, "Take", err)
			if !sample.Same(taken, message) {
				t.Fatalf("Take() = %v, but Peek told %v", taken, message)
			}
			return taken, true
		}
		done(t, "Next", b.Next())
	}
}

// P17.6: what fits is taken in the order in which it came, and what is left stands in that order, too.
func TestReceiveInOrder(t *testing.T) {
	for parity := range int64(3) {
		b := mail.New()
		var taken []api.Term
		fits := func(x api.Term) bool { return x.Int%3 == parity }
		for n := range int64(300) {
			done(t, "Put", b.Put(num(n)))
			if n%7 != 0 {
				continue
			}
			if x, ok := receive(t, b, 0, word("infinity"), fits); ok {
				taken = append(taken, x)
			}
		}
		for {
			x, ok := receive(t, b, 1, word("infinity"), fits)
			if !ok {
				break
			}
			taken = append(taken, x)
		}
		var wantTaken, wantLeft []api.Term
		for n := range int64(300) {
			if fits(num(n)) {
				wantTaken = append(wantTaken, num(n))
			} else {
				wantLeft = append(wantLeft, num(n))
			}
		}
		if !same(taken, wantTaken) {
			t.Errorf("taken: %v", short(taken))
		}
		shows(t, "left", b, view{messages: wantLeft, cursor: len(wantLeft)})
	}
}

// rises: do the ints of a list rise?
func rises(messages []api.Term) bool {
	return slices.IsSortedFunc(messages, func(a, b api.Term) int { return int(a.Int - b.Int) })
}

// P17.6: whatever is done, each message is taken at most once, and those that are left, and no others, stand in order.
func TestTakenOnce(t *testing.T) {
	r := rand.New(rand.NewSource(6))
	for range 300 {
		b := mail.New()
		came, taken := int64(0), map[int64]int{}
		for range 300 {
			switch r.Intn(5) {
			case 0, 1:
				done(t, "Put", b.Put(num(came)))
				came++
			case 2:
				b.Next()
			case 3:
				if x, err := b.Take(); err == nil {
					taken[x.Int]++
				}
			case 4:
				b.Wait(r.Intn(20), num(int64(r.Intn(5))))
				b.Expire(r.Intn(20))
			}
		}
		left := b.All()
		if !rises(left) || len(left)+len(taken) != int(came) {
			t.Fatalf("%d came, %d were taken, left are %v", came, len(taken), short(left))
		}
		for _, x := range left {
			taken[x.Int]++
		}
		for n := range came {
			if taken[n] != 1 {
				t.Fatalf("%d is there %d times", n, taken[n])
			}
		}
	}
}

// P17.6: a box through which far more messages go than it may hold keeps their order.
func TestLongRun(t *testing.T) {
	for _, held := range []int{0, 1, 5, 1000, api.MaxMailbox - 1} {
		b := open(t, 0, row(0, held-1)...)
		for n := range 3 * api.MaxMailbox {
			done(t, "Put", b.Put(num(int64(held+n))))
			takes(t, b, num(int64(n)))
		}
		shows(t, "long", b, view{messages: row(3*api.MaxMailbox, 3*api.MaxMailbox+held-1)})
	}
}

// P17.7: a deadline that is set stays where it is through all that does not end it: messages that come, the cursor, other times to wait, times that are not yet there, and all that is refused.
func TestDeadlineStays(t *testing.T) {
	r := rand.New(rand.NewSource(7))
	times, wrong := append(spans(), endless()...), noTimes()
	for _, deadline := range []int{1, 2, 15, api.MaxClock, api.MaxClock + 1, 2 * api.MaxClock} {
		b := timed(t, open(t, 0, row(1, 3)...), deadline)
		earlier := func() int { return min(r.Intn(deadline), api.MaxClock) }
		for range 500 {
			switch r.Intn(7) {
			case 0:
				b.Put(num(r.Int63n(9)))
			case 1:
				b.Next()
			case 2:
				b.Wait(earlier(), times[r.Intn(len(times))])
			case 3:
				b.Expire(earlier())
			case 4:
				b.Wait(r.Intn(api.MaxClock), wrong[r.Intn(len(wrong))])
			case 5:
				b.Wait(noClocks[r.Intn(len(noClocks))], num(0))
				b.Expire(noClocks[r.Intn(len(noClocks))])
			case 6:
				b.Put(api.Term{})
				for b.Next() == nil {
				}
				b.Take()
			}
			if got, ok := b.Deadline(); got != deadline || !ok {
				t.Fatalf("Deadline() = %d, %t, want %d", got, ok, deadline)
			}
		}
		if deadline > api.MaxClock {
			continue
		}
		expires(t, "it has come", b, deadline, true, look(t, b).over())
	}
}

// P17.7: behind a deadline that has come, and behind a message that is taken, the next one is reckoned anew.
func TestDeadlineAnew(t *testing.T) {
	b := open(t, 2, row(1, 2)...)
	waits(t, "the first one", b, 10, num(5), true, view{row(1, 2), 2, 15, true})
	waits(t, "it has come", b, 15, num(5), false, view{messages: row(1, 2)})
	waits(t, "the second one", b, 15, num(5), true, view{row(1, 2), 0, 20, true})
	expires(t, "it has come", b, 21, true, view{messages: row(1, 2)})
	waits(t, "the third one", b, 21, num(1), true, view{row(1, 2), 0, 22, true})
	takes(t, b, num(1))
	waits(t, "the fourth one", b, 21, num(7), true, view{row(2, 2), 0, 28, true})
	waits(t, "0", b, 22, num(0), false, view{messages: row(2, 2)})
	waits(t, "infinity", b, 22, word("infinity"), true, view{messages: row(2, 2)})
	waits(t, "the fifth one", b, 23, num(7), true, view{row(2, 2), 0, 30, true})
}
