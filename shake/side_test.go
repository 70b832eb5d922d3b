package shake_test

import (
	"math"
	"math/rand"
	"strings"
	"testing"

	"heddle/api"
	"heddle/shake"
)

// eight are the flags that a node must have, one by one.
var eight = []uint64{1 << 2, 1 << 3, 1 << 8, 1 << 16, 1 << 18, 1 << 24, 1 << 25, 1 << 32}

// node: one that may take part.
func node(name string, creation uint32) api.Peer {
	return api.Peer{Name: name, Flags: api.FlagsNeeded, Creation: creation}
}

func begins(t *testing.T, me api.Peer, peer, cookie string, challenge uint32) (*shake.Side, []byte) {
	t.Helper()
	s, b, err := shake.Begin(me, peer, cookie, challenge)
	if s == nil || err != nil {
		t.Fatalf("Begin(%+v, %q, %q, %d): %v", me, peer, cookie, challenge, err)
	}
	return s, b
}

func waits(t *testing.T, me api.Peer, cookie string, challenge uint32) *shake.Side {
	t.Helper()
	s, err := shake.Wait(me, cookie, challenge)
	if s == nil || err != nil {
		t.Fatalf("Wait(%+v, %q, %d): %v", me, cookie, challenge, err)
	}
	return s
}

// takes: a side takes a message well; what is to be sent.
func takes(t *testing.T, s *shake.Side, b string) [][]byte {
	t.Helper()
	told, err := s.Take([]byte(b))
	if err != nil {
		t.Fatalf("Take(%q): %v", b, err)
	}
	return told
}

// answers: a status is answered well; what is to be sent.
func answers(t *testing.T, s *shake.Side, status string) [][]byte {
	t.Helper()
	told, err := s.Answer(status)
	if err != nil {
		t.Fatalf("Answer(%q): %v", status, err)
	}
	return told
}

// sends: what is to be sent is those texts.
func sends(t *testing.T, what string, told [][]byte, want ...string) {
	t.Helper()
	if len(told) != len(want) {
		t.Fatalf("%s: %q is to be sent, want %q", what, told, want)
	}
	for i, b := range told {
		if string(b) != want[i] {
			t.Errorf("%s: %q is to be sent, want %q", what, told, want)
		}
	}
}

// stands: that is known of a side, each time that it is asked.
func stands(t *testing.T, what string, s *shake.Side, want api.Shaking) {
	t.Helper()
	for range 2 {
		if now := s.Now(); now != want {
			t.Errorf("%s: %+v, want %+v", what, now, want)
		}
	}
}

// ended: a side is dead, and every call is refused and changes nothing.
func ended(t *testing.T, what string, s *shake.Side) {
	t.Helper()
	stands(t, what, s, api.Shaking{State: api.ShakeDead})
	stopped(t, what, s, api.ErrEnd, api.ErrEnd)
}

// stopped: every Take is refused with one number, every Answer with another one, and nothing is changed.
func stopped(t *testing.T, what string, s *shake.Side, take, answer api.Errno) {
	t.Helper()
	before := s.Now()
	for _, c := range menu() {
		var told [][]byte
		var err error
		code := take
		if c.answer {
			code = answer
			told, err = s.Answer(c.text)
		} else {
			told, err = s.Take([]byte(c.text))
		}
		refused(t, what+": "+c.String(), err, 0, code)
		if len(told) != 0 || s.Now() != before {
			t.Fatalf("%s: %v: %q, %+v, want %+v", what, c, told, s.Now(), before)
		}
	}
}

// The messages of n@h (creation 1, challenge 5) and m@h (creation 2, challenge 6), with the cookie c.
var (
	hello  = "N\x00\x00\x00\x01\x03\x05\x01\x0c\x00\x00\x00\x01\x00\x03n@h"
	asked  = "N\x00\x00\x00\x01\x03\x05\x01\x0c\x00\x00\x00\x06\x00\x00\x00\x02\x00\x03m@h"
	reply  = "r\x00\x00\x00\x05" + string(digested("c", 6))
	ack    = "a" + string(digested("c", 5))
	first  = node("n@h", 1)
	second = node("m@h", 2)
)

// beginner: the side that begins, in a state.
func beginner(t *testing.T, state api.ShakeState) *shake.Side {
	t.Helper()
	s, _ := begins(t, first, "m@h", "c", 5)
	for _, b := range []string{"sok", asked, ack} {
		if s.Now().State != state {
			takes(t, s, b)
		}
	}
	stands(t, "beginner", s, api.Shaking{State: state, Peer: s.Now().Peer})
	return s
}

// waiter: the other one, in a state.
func waiter(t *testing.T, state api.ShakeState) *shake.Side {
	t.Helper()
	s := waits(t, second, "c", 6)
	for _, b := range []string{hello, "", reply} {
		if now := s.Now().State; now == api.WaitAnswer && now != state {
			answers(t, s, "ok")
		} else if now != state {
			takes(t, s, b)
		}
	}
	stands(t, "waiter", s, api.Shaking{State: state, Peer: s.Now().Peer})
	return s
}

// P8.7: the whole of a handshake, message by message, with what is known behind each.
func TestHandshake(t *testing.T) {
	for status, simult := range map[string]bool{"ok": false, "ok_simultaneous": true} {
		a, b := begins(t, first, "m@h", "c", 5)
		sends(t, "Begin", [][]byte{b}, hello)
		stands(t, "Begin", a, api.Shaking{State: api.WaitStatus})
		z := waits(t, second, "c", 6)
		stands(t, "Wait", z, api.Shaking{State: api.WaitName})

		sends(t, "the name", takes(t, z, string(b)))
		stands(t, "the name", z, api.Shaking{State: api.WaitAnswer, Peer: first})
		told := answers(t, z, status)
		sends(t, "Answer", told, "s"+status, asked)
		stands(t, "Answer", z, api.Shaking{State: api.WaitReply, Peer: first, Simult: simult})

		sends(t, "the status", takes(t, a, string(told[0])))
		stands(t, "the status", a, api.Shaking{State: api.WaitChallenge, Simult: simult})
		back := takes(t, a, string(told[1]))
		sends(t, "the challenge", back, reply)
		stands(t, "the challenge", a, api.Shaking{State: api.WaitAck, Peer: second, Simult: simult})

		told = takes(t, z, string(back[0]))
		sends(t, "the reply", told, ack)
		stands(t, "the reply", z, api.Shaking{State: api.ShakeUp, Peer: first, Simult: simult})
		sends(t, "the ack", takes(t, a, string(told[0])))
		stands(t, "the ack", a, api.Shaking{State: api.ShakeUp, Peer: second, Simult: simult})
		for _, s := range []*shake.Side{a, z} {
			stopped(t, "up", s, api.ErrState, api.ErrState)
		}
	}
}

// The chapter's example 1.
func TestExample(t *testing.T) {
	s, b := begins(t, first, "m@h", "c", 5)
	if string(b) != hello {
		t.Errorf("%q, want %q", b, hello)
	}
	told, err := s.Take([]byte("snok"))
	refused(t, "snok", err, 0, api.ErrStatus)
	sends(t, "snok", told)
	_, err = s.Take([]byte("sok"))
	refused(t, "behind the end", err, 0, api.ErrEnd)
	ended(t, "snok", s)
}

// given are the arguments of Begin and, but for the peer, of Wait.
type given struct {
	me           api.Peer
	peer, cookie string
}

// P8.3: each refusal alone and beside all of the others, in every mixture: the first one is told.
func TestMadeOfWrongThings(t *testing.T) {
	spoilers := []struct {
		begin bool // Wait knows nothing of it
		spoil func(g *given)
		code  api.Errno
		under []api.Fault
	}{
		{false, func(g *given) { g.me.Name = "n" }, api.ErrName, []api.Fault{noName}},
		{true, func(g *given) { g.peer = "m" }, api.ErrName, []api.Fault{noName}},
		{false, func(g *given) { g.me.Flags -= 1 << 32 }, api.ErrPeer, nil},
		{false, func(g *given) { g.me.Creation = 0 }, api.ErrArg, nil},
		{true, func(g *given) {
			if g.peer == "m@h" { // else the peer's own fault stays
				g.peer = g.me.Name
			}
		}, api.ErrTwice, nil},
		{false, func(g *given) { g.cookie = "ab c" }, api.ErrCookie, []api.Fault{{Layer: "mix", At: 2, Code: api.ErrCookie}}},
	}
	for mask := range 1 << len(spoilers) {
		g := given{first, "m@h", "c"}
		begin, wait := -1, -1
		for i, x := range spoilers {
			if mask>>i&1 == 0 {
				continue
			}
			x.spoil(&g)
			if begin < 0 {
				begin = i
			}
			if wait < 0 && !x.begin {
				wait = i
			}
		}
		s, b, err := shake.Begin(g.me, g.peer, g.cookie, 5)
		if begin < 0 {
			if s == nil || len(b) == 0 || err != nil {
				t.Errorf("Begin: %v, %q, %v", s, b, err)
			}
		} else {
			refused(t, "Begin", err, 0, spoilers[begin].code, spoilers[begin].under...)
			if s != nil || len(b) != 0 {
				t.Errorf("Begin: %v, %q beside %v", s, b, err)
			}
		}
		z, err := shake.Wait(g.me, g.cookie, 5)
		if wait < 0 {
			if z == nil || err != nil {
				t.Errorf("Wait: %v, %v", z, err)
			}
		} else {
			refused(t, "Wait", err, 0, spoilers[wait].code, spoilers[wait].under...)
			if z != nil {
				t.Errorf("Wait: %v beside %v", z, err)
			}
		}
	}
}

// P8.3: all names, flags, creations and cookies at their edges.
func TestMadeOfEdges(t *testing.T) {
	refuses := func(what string, g given, code api.Errno, under ...api.Fault) {
		t.Helper()
		_, _, err := shake.Begin(g.me, g.peer, g.cookie, 0)
		refused(t, "Begin: "+what, err, 0, code, under...)
		_, err = shake.Wait(g.me, g.cookie, 0)
		refused(t, "Wait: "+what, err, 0, code, under...)
	}
	for _, name := range noNames {
		refuses("name", given{node(name, 1), "m@h", "c"}, api.ErrName, noName)
		refuses("both names", given{node(name, 1), name, "c"}, api.ErrName, noName)
		_, _, err := shake.Begin(first, name, "c", 0)
		refused(t, "Begin: peer", err, 0, api.ErrName, noName)
	}
	for _, name := range names {
		if name != "n@h" {
			begins(t, node(name, 1), "n@h", "c", 0)
			begins(t, first, name, "c", 0)
		}
		waits(t, node(name, 1), "c", 0)
		_, _, err := shake.Begin(node(name, 1), name, "c", 0)
		refused(t, "twice", err, 0, api.ErrTwice)
	}
	if all := eight[0] | eight[1] | eight[2] | eight[3] | eight[4] | eight[5] | eight[6] | eight[7]; all != api.FlagsNeeded {
		t.Errorf("%x", all)
	}
	for _, one := range eight {
		for _, flags := range []uint64{api.FlagsNeeded &^ one, math.MaxUint64 &^ one, one, 0} {
			refuses("flags", given{api.Peer{Name: "n@h", Flags: flags, Creation: 1}, "m@h", "c"}, api.ErrPeer)
		}
	}
	for _, flags := range []uint64{api.FlagsNeeded, api.FlagsNeeded | 1, math.MaxUint64} {
		for _, creation := range []uint32{1, 2, 255, 256, math.MaxUint32} {
			me := api.Peer{Name: "n@h", Flags: flags, Creation: creation}
			_, b := begins(t, me, "m@h", "c", 0)
			sends(t, "Begin", [][]byte{b}, laid(api.Shake{Kind: api.HName, Flags: flags, Creation: creation, Name: "n@h"}))
			waits(t, me, "c", 0)
		}
	}
	for cookie, at := range map[string]int{"": 0, " ": 0, "ab c": 2, "c\x7f": 1, "é": 0, strings.Repeat("c", 256): 255} {
		refuses("cookie", given{first, "m@h", cookie}, api.ErrCookie, api.Fault{Layer: "mix", At: at, Code: api.ErrCookie})
	}
	for _, cookie := range []string{"!", "~", strings.Repeat("c", 255)} {
		begins(t, first, "m@h", cookie, math.MaxUint32)
		waits(t, second, cookie, math.MaxUint32)
	}
}

// P8.4: every state with every kind of message; behind an error the side is dead, but behind ErrState it is as it was.
func TestStatesAndKinds(t *testing.T) {
	messages := map[api.ShakeKind]string{api.HName: hello, api.HStatus: "sok", api.HChallenge: asked, api.HReply: reply, api.HAck: ack}
	then := map[api.ShakeState]api.ShakeState{api.WaitStatus: api.WaitChallenge, api.WaitChallenge: api.WaitAck, api.WaitAck: api.ShakeUp, api.WaitName: api.WaitAnswer, api.WaitReply: api.ShakeUp}
	for _, c := range []struct {
		make   func(t *testing.T, state api.ShakeState) *shake.Side
		states []api.ShakeState
	}{
		{beginner, []api.ShakeState{api.WaitStatus, api.WaitChallenge, api.WaitAck, api.ShakeUp}},
		{waiter, []api.ShakeState{api.WaitName, api.WaitAnswer, api.WaitReply, api.ShakeUp}},
	} {
		for _, state := range c.states {
			for k, text := range messages {
				s := c.make(t, state)
				before := s.Now()
				told, err := s.Take([]byte(text))
				switch {
				case waited[state] == k:
					if err != nil || s.Now().State != then[state] {
						t.Errorf("state %d, kind %d: %v, %+v", state, k, err, s.Now())
					}
				case waited[state] == 0:
					refused(t, "not now", err, 0, api.ErrState)
					stands(t, "not now", s, before)
					sends(t, "not now", told)
				default:
					_, fault := found(waited[state], text)
					refused(t, "another kind", err, fault.At, api.ErrShake)
					sends(t, "another kind", told)
					ended(t, "another kind", s)
				}
			}
		}
	}
}

// P8.4: what stands in each state is read as the kind that it waits for: Read's own faults, at their places.
func TestTakeTellsReadsFault(t *testing.T) {
	for state, k := range waited {
		text := map[api.ShakeKind]string{api.HName: hello, api.HStatus: "sok", api.HChallenge: asked, api.HReply: reply, api.HAck: ack}[k]
		makes := beginner
		if state >= api.WaitName {
			makes = waiter
		}
		for n := range len(text) {
			s := makes(t, state)
			told, err := s.Take([]byte(text[:n]))
			at := n
			if k == api.HStatus && n > 0 {
				at = 1
			}
			refused(t, "cut", err, at, api.ErrShake)
			sends(t, "cut", told)
			ended(t, "cut", s)
		}
		s := makes(t, state)
		_, err := s.Take([]byte(text + "x"))
		_, fault := found(k, text+"x")
		refused(t, "long", err, fault.At, api.ErrShake)
		ended(t, "long", s)
		if head := heads[k]; head > 0 {
			s = makes(t, state)
			_, err = s.Take([]byte(text[:head] + "nnn"))
			refused(t, "no name", err, head, api.ErrName, noName)
			ended(t, "no name", s)
		}
	}
}

// P8.4: statuses.
func TestTakeStatus(t *testing.T) {
	for _, status := range []string{"nok", "not_allowed", "alive"} {
		s := beginner(t, api.WaitStatus)
		told, err := s.Take([]byte("s" + status))
		refused(t, status, err, 0, api.ErrStatus)
		sends(t, status, told)
		ended(t, status, s)
	}
	for _, status := range noStatuses {
		s := beginner(t, api.WaitStatus)
		_, err := s.Take([]byte("s" + status))
		refused(t, status, err, 1, api.ErrShake)
		ended(t, status, s)
	}
	s := beginner(t, api.WaitStatus)
	sends(t, "simultaneous", takes(t, s, "sok_simultaneous"))
	stands(t, "simultaneous", s, api.Shaking{State: api.WaitChallenge, Simult: true})
	takes(t, s, asked)
	stands(t, "simultaneous", s, api.Shaking{State: api.WaitAck, Peer: second, Simult: true})
	if _, err := s.Take([]byte("a" + string(digested("d", 5)))); err == nil {
		t.Error("another cookie's digest is taken")
	}
	ended(t, "a dead side is not simultaneous, and knows nobody", s)
}

// P8.4: challenges of others, of some that lack a flag, and of one without a creation, which may be.
func TestTakeChallenge(t *testing.T) {
	challenge := func(p api.Peer, n uint32) string {
		return laid(api.Shake{Kind: api.HChallenge, Flags: p.Flags, Challenge: n, Creation: p.Creation, Name: p.Name})
	}
	wrong := []api.Peer{node("k@h", 2), node("n@h", 2), node("M@h", 2), node("m@h.", 2), node("m@", 2), {Name: "k@h"}}
	for _, one := range eight {
		wrong = append(wrong, api.Peer{Name: "m@h", Flags: api.FlagsNeeded &^ one, Creation: 2}, api.Peer{Name: "m@h", Flags: math.MaxUint64 &^ one})
	}
	for _, p := range wrong {
		s := beginner(t, api.WaitChallenge)
		told, err := s.Take([]byte(challenge(p, 6)))
		if p.Name == "m@" {
			refused(t, "no name", err, 19, api.ErrName, noName)
		} else {
			refused(t, p.Name, err, 0, api.ErrPeer)
		}
		sends(t, p.Name, told)
		ended(t, p.Name, s)
	}
	for _, flags := range []uint64{api.FlagsNeeded, math.MaxUint64} {
		for _, n := range []uint32{0, 5, 6, math.MaxUint32} {
			for _, creation := range []uint32{0, 1, math.MaxUint32} {
				p := api.Peer{Name: "m@h", Flags: flags, Creation: creation}
				s := beginner(t, api.WaitChallenge)
				sends(t, "challenge", takes(t, s, challenge(p, n)), laid(api.Shake{Kind: api.HReply, Challenge: 5, Digest: digested("c", n)}))
				stands(t, "challenge", s, api.Shaking{State: api.WaitAck, Peer: p})
			}
		}
	}
}

// near: texts that are as long as a message with a digest, but have not its own digest: each bit of it turned, and digests of other cookies and challenges.
func near(message string, own, other uint32) []string {
	head := message[:len(message)-16]
	all := []string{head + string(make([]byte, 16)), head + string(digested("d", own)), head + string(digested("c", other)), head + string(digested("C", own)), head + string(digested("c", own+1))}
	for i := range 128 {
		b := []byte(message)
		b[len(head)+i/8] ^= 1 << (i % 8)
		all = append(all, string(b))
	}
	return all
}

// P8.4 and P8.8: no other digest than that of the side's own cookie and challenge makes it come up.
func TestTakeDigests(t *testing.T) {
	for _, text := range near(ack, 5, 6) {
		s := beginner(t, api.WaitAck)
		told, err := s.Take([]byte(text))
		refused(t, "ack", err, 0, api.ErrDigest)
		sends(t, "ack", told)
		ended(t, "ack", s)
	}
	for _, text := range near(reply, 6, 5) {
		s := waiter(t, api.WaitReply)
		told, err := s.Take([]byte(text))
		refused(t, "reply", err, 0, api.ErrDigest)
		sends(t, "reply", told)
		ended(t, "reply", s)
	}
	for _, n := range []uint32{0, 6, 7, math.MaxUint32} {
		s := waiter(t, api.WaitReply)
		sends(t, "reply", takes(t, s, laid(api.Shake{Kind: api.HReply, Challenge: n, Digest: digested("c", 6)})), "a"+string(digested("c", n)))
		stands(t, "reply", s, api.Shaking{State: api.ShakeUp, Peer: first})
	}
}

// P8.5: every status for one that may; behind those that are no yes the side is dead, without an error.
func TestAnswer(t *testing.T) {
	for _, status := range statuses {
		s := waiter(t, api.WaitAnswer)
		told := answers(t, s, status)
		if status == "ok" || status == "ok_simultaneous" {
			sends(t, status, told, "s"+status, asked)
			stands(t, status, s, api.Shaking{State: api.WaitReply, Peer: first, Simult: status == "ok_simultaneous"})
			_, err := s.Answer(status)
			refused(t, "a second answer", err, 0, api.ErrState)
			stands(t, status, s, api.Shaking{State: api.WaitReply, Peer: first, Simult: status == "ok_simultaneous"})
		} else {
			sends(t, status, told, "s"+status)
			ended(t, status, s)
		}
	}
}

// P8.5: what is no status changes nothing, whoever has told a name; the next answer is as if it had not been.
func TestAnswerNoStatus(t *testing.T) {
	for _, p := range []api.Peer{first, {Name: "n@h"}, second} {
		s := waits(t, second, "c", 6)
		takes(t, s, laid(api.Shake{Kind: api.HName, Flags: p.Flags, Creation: p.Creation, Name: p.Name}))
		for _, status := range noStatuses {
			told, err := s.Answer(status)
			refused(t, status, err, 0, api.ErrArg)
			sends(t, status, told)
			stands(t, status, s, api.Shaking{State: api.WaitAnswer, Peer: p})
		}
		told := answers(t, s, "ok")
		if p == first {
			sends(t, "ok", told, "sok", asked)
		} else {
			sends(t, "ok", told, "snot_allowed")
			ended(t, "ok", s)
		}
	}
}

// P8.5: one that lacks a flag, has no creation, or has the side's own name is not allowed, whatever is answered.
func TestAnswerNotAllowed(t *testing.T) {
	wrong := []api.Peer{second, node("m@h", 1), node("n@h", 0), {Name: "m@h"}, {Name: "n@h", Flags: math.MaxUint64}}
	for _, one := range eight {
		wrong = append(wrong, api.Peer{Name: "n@h", Flags: api.FlagsNeeded &^ one, Creation: 1}, api.Peer{Name: "n@h", Flags: math.MaxUint64 &^ one, Creation: 1})
	}
	for _, p := range wrong {
		for _, status := range statuses {
			s := waits(t, second, "c", 6)
			takes(t, s, laid(api.Shake{Kind: api.HName, Flags: p.Flags, Creation: p.Creation, Name: p.Name}))
			stands(t, "name", s, api.Shaking{State: api.WaitAnswer, Peer: p})
			sends(t, status, answers(t, s, status), "snot_allowed")
			ended(t, status, s)
		}
	}
}

// P8.5: in every other state an answer is refused, and changes nothing.
func TestAnswerNotNow(t *testing.T) {
	sides := []*shake.Side{waiter(t, api.WaitName), waiter(t, api.WaitReply), waiter(t, api.ShakeUp)}
	for _, state := range []api.ShakeState{api.WaitStatus, api.WaitChallenge, api.WaitAck, api.ShakeUp} {
		sides = append(sides, beginner(t, state))
	}
	for _, s := range sides {
		before := s.Now()
		for _, status := range append(statuses, noStatuses...) {
			told, err := s.Answer(status)
			refused(t, status, err, 0, api.ErrState)
			sends(t, status, told)
			stands(t, status, s, before)
		}
	}
}

// Rule 3: a side that is nil, or that no call made.
func TestSideThatNobodyMade(t *testing.T) {
	up, dead := beginner(t, api.ShakeUp), waiter(t, api.WaitAnswer)
	answers(t, dead, "nok")
	byHand := []shake.Side{*up, *dead, *beginner(t, api.WaitStatus), *waiter(t, api.WaitAnswer)}
	sides := []*shake.Side{nil, {}, new(shake.Side)}
	for i := range byHand {
		sides = append(sides, &byHand[i])
	}
	for _, s := range sides {
		stands(t, "nobody's", s, api.Shaking{})
		stopped(t, "nobody's", s, api.ErrZero, api.ErrZero)
	}
	stands(t, "copied", up, api.Shaking{State: api.ShakeUp, Peer: second})
	ended(t, "copied", dead)
}

// meet hands one another's messages to two sides until there are no more. It answers where they stand.
func meet(t *testing.T, a, z *shake.Side, b []byte, status string) (api.Shaking, api.Shaking) {
	t.Helper()
	takes(t, z, string(b))
	to := answers(t, z, status)
	for len(to) > 0 {
		var back [][]byte
		for _, b := range to {
			told, _ := a.Take(b)
			back = append(back, told...)
		}
		to = nil
		for _, b := range back {
			told, _ := z.Take(b)
			to = append(to, told...)
		}
	}
	return a.Now(), z.Now()
}

// P8.7 and P8.8: many nodes, cookies and challenges: with one cookie both come up and know one another, with two neither does.
func TestMeet(t *testing.T) {
	r := rand.New(rand.NewSource(87))
	cookies := []string{"!", "c", "d", "C", "cc", "secret", "secret1", strings.Repeat("c", 255), strings.Repeat("c", 254) + "d"}
	for range 3000 {
		i, j := r.Intn(len(names)), r.Intn(len(names)-1)
		if j >= i {
			j++
		}
		me := api.Peer{Name: names[i], Flags: r.Uint64() | api.FlagsNeeded, Creation: 1 + r.Uint32()>>1}
		other := api.Peer{Name: names[j], Flags: r.Uint64() | api.FlagsNeeded, Creation: 1 + r.Uint32()>>1}
		x, y := cookies[r.Intn(len(cookies))], cookies[r.Intn(len(cookies))]
		n, m := r.Uint32()>>r.Intn(32), r.Uint32()>>r.Intn(32)
		status := statuses[r.Intn(2)]
		a, b := begins(t, me, other.Name, x, n)
		z := waits(t, other, y, m)
		left, right := meet(t, a, z, b, status)
		if x == y {
			simult := status == "ok_simultaneous"
			if left != (api.Shaking{State: api.ShakeUp, Peer: other, Simult: simult}) || right != (api.Shaking{State: api.ShakeUp, Peer: me, Simult: simult}) {
				t.Fatalf("%q, %d, %d, %s: %+v, %+v", x, n, m, status, left, right)
			}
		} else if left != (api.Shaking{State: api.WaitAck, Peer: other, Simult: left.Simult}) || right != (api.Shaking{State: api.ShakeDead}) {
			t.Fatalf("%q, %q, %d, %d: %+v, %+v", x, y, n, m, left, right)
		}
	}
	for _, status := range []string{"nok", "not_allowed", "alive"} {
		a, b := begins(t, first, "m@h", "c", 5)
		meet(t, a, waits(t, second, "c", 6), b, status)
		ended(t, status, a)
	}
}

// P8.8: one who does not know the cookie and sends back what it was told makes no side come up, unless that side's own challenge and the digest are the same.
func TestMirror(t *testing.T) {
	s := waiter(t, api.WaitReply)
	_, err := s.Take([]byte("r" + asked[9:13] + asked[1:9] + asked[1:9]))
	refused(t, "mirror", err, 0, api.ErrDigest)
	ended(t, "mirror", s)
	b := beginner(t, api.WaitChallenge)
	told := takes(t, b, asked)
	_, err = b.Take([]byte("a" + string(told[0][5:])))
	refused(t, "mirror", err, 0, api.ErrDigest)
	ended(t, "mirror", b)
}

// Rule 4: what was handed in or told, and is changed then, changes nothing in a later answer.
func TestSidesKeepNothing(t *testing.T) {
	a, hi := begins(t, first, "m@h", "c", 5)
	z := waits(t, second, "c", 6)
	pass := func(s *shake.Side, text string) [][]byte {
		b := []byte("ahead" + text + "behind")
		told, err := s.Take(b[5 : len(b)-6])
		if err != nil || string(b) != "ahead"+text+"behind" {
			t.Fatalf("%v, %q", err, b)
		}
		clear(b)
		return told
	}
	spoil := func(told [][]byte) []string {
		var texts []string
		for i, b := range told {
			texts = append(texts, string(b))
			clear(b)
			_ = append(b, "and more"...)
			told[i] = nil
		}
		return texts
	}
	pass(z, spoil([][]byte{hi})[0])
	texts := spoil(answers(t, z, "ok"))
	if texts[0] != "sok" || texts[1] != asked {
		t.Fatalf("%q", texts)
	}
	pass(a, texts[0])
	texts = spoil(pass(a, texts[1]))
	texts = spoil(pass(z, texts[0]))
	pass(a, texts[0])
	stands(t, "spoilt", a, api.Shaking{State: api.ShakeUp, Peer: second})
	stands(t, "spoilt", z, api.Shaking{State: api.ShakeUp, Peer: first})
	known := a.Now()
	known.Peer.Name, known.State = "x", 0
	stands(t, "spoilt", a, api.Shaking{State: api.ShakeUp, Peer: second})
}
