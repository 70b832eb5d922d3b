package stream_test

import (
	"bytes"
	"errors"
	"math"
	"strconv"
	"testing"

	"heddle/api"
	"heddle/stream"
)

// refused: err is a fault of layer stream with that number at 0, and nothing lies under it.
func refused(t *testing.T, what string, err error, code api.Errno) {
	t.Helper()
	var f *api.Fault
	if !errors.As(err, &f) || *f != (api.Fault{Layer: "stream", Code: code}) || !errors.Is(err, code) {
		t.Errorf("%s: %v, want errno %d of layer stream at 0, nothing under it", what, err, code)
	}
}

// done: the call was not refused.
func done(t *testing.T, what string, err error) {
	t.Helper()
	if err != nil {
		t.Fatalf("%s: %v", what, err)
	}
}

// states: what is known of both ends.
func states(t *testing.T, s *stream.Stream) [2]api.Pipe {
	t.Helper()
	var p [2]api.Pipe
	for end := range p {
		var err error
		if p[end], err = s.State(end); err != nil {
			t.Fatalf("State(%d): %v", end, err)
		}
	}
	return p
}

// shows: that is known of both ends.
func shows(t *testing.T, what string, s *stream.Stream, want ...api.Pipe) {
	t.Helper()
	if got := states(t, s); got != [2]api.Pipe(want) {
		t.Errorf("%s: States %+v, want %+v", what, got, want)
	}
}

// reads: an end reads just that.
func reads(t *testing.T, s *stream.Stream, end, most int, want string) {
	t.Helper()
	if b, err := s.Read(end, most); err != nil || string(b) != want {
		t.Errorf("Read(%d, %d) = %.40q (%d), %v, want %.40q (%d)", end, most, b, len(b), err, want, len(want))
	}
}

// over: it is over for that end, whatever it asks for.
func over(t *testing.T, s *stream.Stream, end int) {
	t.Helper()
	for _, most := range []int{0, 1, math.MaxInt} {
		b, err := s.Read(end, most)
		refused(t, "Read when it is over", err, api.ErrEnd)
		if len(b) != 0 {
			t.Errorf("Read(%d, %d) when it is over: %q", end, most, b)
		}
	}
}

// attempt: one call, by its name.
type attempt struct {
	name string
	call func(s *stream.Stream) error
}

func send(end int, text string) attempt {
	return attempt{"Send(" + strconv.Itoa(end) + ", " + strconv.Itoa(len(text)) + " bytes)", func(s *stream.Stream) error { return s.Send(end, []byte(text)) }}
}

func move(end, n int) attempt {
	return attempt{"Move(" + strconv.Itoa(end) + ", " + strconv.Itoa(n) + ")", func(s *stream.Stream) error { return s.Move(end, n) }}
}

func stall(end int, yes bool) attempt {
	return attempt{"Stall(" + strconv.Itoa(end) + ", " + strconv.FormatBool(yes) + ")", func(s *stream.Stream) error { return s.Stall(end, yes) }}
}

// read and look: an error with which something is told is none of those that are looked for.
func read(end, most int) attempt {
	return attempt{"Read(" + strconv.Itoa(end) + ", " + strconv.Itoa(most) + ")", func(s *stream.Stream) error {
		b, err := s.Read(end, most)
		if err != nil && len(b) != 0 {
			return errors.New("bytes beside an error")
		}
		return err
	}}
}

func look(end int) attempt {
	return attempt{"State(" + strconv.Itoa(end) + ")", func(s *stream.Stream) error {
		p, err := s.State(end)
		if err != nil && p != (api.Pipe{}) {
			return errors.New("a state beside an error")
		}
		return err
	}}
}

func snap() attempt { return attempt{"Break()", (*stream.Stream).Break} }

func closing(end int) attempt {
	return attempt{"Close(" + strconv.Itoa(end) + ")", func(s *stream.Stream) error { return s.Close(end) }}
}

// build: a stream on which those calls were done.
func build(t *testing.T, calls ...attempt) *stream.Stream {
	t.Helper()
	s := stream.New()
	if s == nil {
		t.Fatal("New() = nil")
	}
	for _, c := range calls {
		done(t, c.name, c.call(s))
	}
	return s
}

// refuses: the stream refuses each of the calls with that number, and is as it was.
func refuses(t *testing.T, s *stream.Stream, code api.Errno, calls ...attempt) {
	t.Helper()
	before := states(t, s)
	for _, c := range calls {
		refused(t, c.name, c.call(s), code)
		if now := states(t, s); now != before {
			t.Errorf("%s was refused, but made %+v of %+v", c.name, now, before)
			before = now
		}
	}
}

// every: each call at an end, with arguments at which nothing but the end or the stream may be wrong.
func every(end int) []attempt {
	return []attempt{send(end, "x"), send(end, ""), move(end, 0), stall(end, true), stall(end, false), read(end, 1), read(end, 0), closing(end), look(end)}
}

// wrong: each call at an end, with arguments that are wrong by themselves.
func wrong(end int) []attempt {
	return []attempt{move(end, -1), move(end, math.MinInt), move(end, math.MaxInt), read(end, -1), read(end, math.MinInt)}
}

func TestExamples(t *testing.T) {
	s := build(t, send(0, "hello"), move(0, 2))
	reads(t, s, 1, 10, "he")
	refuses(t, s, api.ErrMoves, move(0, 4))
	done(t, "Break", s.Break())
	over(t, s, 1)
	if p, err := s.State(0); err != nil || p.Under != 0 {
		t.Errorf("State(0) = %+v, %v", p, err)
	}

	s = build(t, send(1, "ab"), closing(1))
	reads(t, s, 0, 1, "a")
	reads(t, s, 0, 1, "b")
	over(t, s, 0)

	s = build(t, stall(0, true))
	refuses(t, s, api.ErrStalled, move(0, 1))
}

// P5.1
func TestNew(t *testing.T) {
	s := build(t)
	shows(t, "New", s, api.Pipe{}, api.Pipe{})
	for end := range 2 {
		reads(t, s, end, 10, "")
		done(t, "Move", s.Move(end, 0))
	}
	if stream.New() == s {
		t.Error("New tells a stream that was told already")
	}
}

// ErrZero is ahead of all else, ErrRange of all else but that.
func TestNobodyMadeIt(t *testing.T) {
	made := build(t, send(0, "abc"), move(0, 2))
	before := states(t, made)
	copied := *made
	for name, s := range map[string]*stream.Stream{"nil": nil, "empty": {}, "copied": &copied} {
		for _, end := range []int{0, 1, -1, 2, math.MinInt, math.MaxInt} {
			for _, c := range append(append(every(end), wrong(end)...), snap()) {
				refused(t, name+": "+c.name, c.call(s), api.ErrZero)
			}
		}
	}
	if now := states(t, made); now != before {
		t.Errorf("calls of a copy made %+v of %+v", now, before)
	}
	reads(t, made, 1, 10, "ab")
}

func TestNoSuchEnd(t *testing.T) {
	for name, s := range map[string]*stream.Stream{
		"new":    build(t),
		"used":   build(t, send(0, "abc"), move(0, 2), stall(0, true), send(1, "d")),
		"broken": build(t, send(0, "abc"), move(0, 2), snap()),
		"closed": build(t, send(0, "abc"), closing(0), read(1, 3)),
	} {
		for _, end := range []int{-1, 2, math.MinInt, math.MaxInt} {
			t.Run(name, func(t *testing.T) { refuses(t, s, api.ErrRange, append(every(end), wrong(end)...)...) })
		}
	}
}

// P5.2
func TestSend(t *testing.T) {
	for end := range 2 {
		s := build(t, send(end, "ab"), send(end, ""), send(end, "cde"))
		done(t, "Send of nil", s.Send(end, nil))
		want := [2]api.Pipe{}
		want[end] = api.Pipe{Under: 5, Sent: 5}
		shows(t, "Send", s, want[:]...)
		reads(t, s, end, 10, "")
		reads(t, s, 1-end, 10, "")
		done(t, "Move", s.Move(end, 5))
		reads(t, s, 1-end, 10, "abcde")
	}
}

// A stalled end may send: only moves are held up.
func TestSendStalled(t *testing.T) {
	s := build(t, stall(0, true), send(0, "ab"))
	shows(t, "Send", s, api.Pipe{Under: 2, Sent: 2, Stalled: true}, api.Pipe{})
}

// P5.3
func TestMove(t *testing.T) {
	for end := range 2 {
		s := build(t, send(end, "abcdef"), move(end, 0))
		reads(t, s, 1-end, 10, "")
		done(t, "Move", s.Move(end, 1))
		done(t, "Move", s.Move(end, 0))
		done(t, "Move", s.Move(end, 3))
		want := [2]api.Pipe{}
		want[end], want[1-end] = api.Pipe{Under: 2, Sent: 6}, api.Pipe{Come: 4, Moved: 4}
		shows(t, "Move", s, want[:]...)
		reads(t, s, 1-end, 10, "abcd")
		refuses(t, s, api.ErrMoves, move(end, 3), move(end, math.MaxInt), move(1-end, 1))
		done(t, "Move", s.Move(end, 2))
		reads(t, s, 1-end, 10, "ef")
		refuses(t, s, api.ErrMoves, move(end, 1))
		done(t, "Move", s.Move(end, 0))
	}
}

// Which of a Move's errors is told, where several apply.
func TestMoveErrors(t *testing.T) {
	s := build(t, send(0, "ab"), stall(0, true))
	refuses(t, s, api.ErrArg, move(0, -1), move(0, math.MinInt), move(1, -1))
	refuses(t, s, api.ErrStalled, move(0, 0), move(0, 1), move(0, 2), move(0, 3), move(0, math.MaxInt))
	refuses(t, s, api.ErrMoves, move(1, 1))
	done(t, "Break", s.Break())
	refuses(t, s, api.ErrClosed, move(0, -1), move(0, 0), move(0, 3), move(1, -1), move(1, 0), move(1, 1))
}

// P5.4
func TestStall(t *testing.T) {
	for end := range 2 {
		s := build(t, send(0, "abc"), send(1, "xyz"), move(0, 1), move(1, 1), stall(end, true), stall(end, true))
		want := [2]api.Pipe{{Under: 2, Come: 1, Sent: 3, Moved: 1}, {Under: 2, Come: 1, Sent: 3, Moved: 1}}
		want[end].Stalled = true
		shows(t, "Stall", s, want[:]...)
		refuses(t, s, api.ErrStalled, move(end, 0), move(end, 1))
		done(t, "Move of the other end", s.Move(1-end, 2))
		reads(t, s, end, 10, []string{"xyz", "abc"}[end])
		reads(t, s, 1-end, 10, []string{"a", "x"}[end])
		done(t, "Stall", s.Stall(end, false))
		done(t, "Stall", s.Stall(end, false))
		done(t, "Move", s.Move(end, 2))
		reads(t, s, 1-end, 10, []string{"bc", "yz"}[end])
		done(t, "Stall", s.Stall(1-end, false))
		for _, p := range states(t, s) {
			if p != (api.Pipe{Sent: 3, Moved: 3, ReadAll: 3}) {
				t.Errorf("State = %+v", p)
			}
		}
	}
}

// P5.5
func TestRead(t *testing.T) {
	for end := range 2 {
		s := build(t, send(end, "abcdef"), move(end, 5))
		reads(t, s, 1-end, 0, "")
		reads(t, s, 1-end, 2, "ab")
		reads(t, s, end, 2, "")
		reads(t, s, 1-end, 0, "")
		want := [2]api.Pipe{}
		want[end], want[1-end] = api.Pipe{Under: 1, Sent: 6}, api.Pipe{Come: 3, Moved: 5, ReadAll: 2}
		shows(t, "Read", s, want[:]...)
		refuses(t, s, api.ErrArg, read(1-end, -1), read(1-end, math.MinInt), read(end, -1))
		reads(t, s, 1-end, math.MaxInt, "cde")
		reads(t, s, 1-end, math.MaxInt, "")
		done(t, "Move", s.Move(end, 1))
		reads(t, s, 1-end, 1, "f")
		reads(t, s, 1-end, 0, "")
	}
}

// Where it is over and most is below 0, the number is told as wrong.
func TestReadErrors(t *testing.T) {
	for _, end := range []attempt{snap(), closing(0), closing(1)} {
		s := build(t, end)
		refuses(t, s, api.ErrArg, read(0, -1), read(1, math.MinInt))
		refuses(t, s, api.ErrEnd, read(0, 0), read(1, 0), read(0, 1), read(1, math.MaxInt))
	}
}

// both: bytes of both ends are under way and have come, some are read; perhaps an end is stalled.
func both(t *testing.T, more ...attempt) *stream.Stream {
	t.Helper()
	return build(t, append([]attempt{send(0, "abcdef"), send(1, "uvwxyz"), move(0, 4), move(1, 3), read(0, 1), read(1, 2)}, more...)...)
}

// P5.6
func TestBreak(t *testing.T) {
	for end := range 3 {
		s, stalled := both(t), [2]bool{}
		if end < 2 {
			stalled[end] = true
			done(t, "Stall", s.Stall(end, true))
		}
		done(t, "Break", s.Break())
		shows(t, "Break", s,
			api.Pipe{Come: 2, Sent: 6, Moved: 3, ReadAll: 1, Stalled: stalled[0], Closed: true},
			api.Pipe{Come: 2, Sent: 6, Moved: 4, ReadAll: 2, Stalled: stalled[1], Closed: true})
		reads(t, s, 0, 10, "vw")
		over(t, s, 0)
		reads(t, s, 1, 0, "")
		reads(t, s, 1, 1, "c")
		reads(t, s, 1, 1, "d")
		over(t, s, 1)
		shows(t, "over", s,
			api.Pipe{Sent: 6, Moved: 3, ReadAll: 3, Stalled: stalled[0], Closed: true},
			api.Pipe{Sent: 6, Moved: 4, ReadAll: 4, Stalled: stalled[1], Closed: true})
	}
}

func TestClose(t *testing.T) {
	for _, stalled := range []bool{false, true} {
		s := both(t, stall(0, stalled), stall(1, stalled), closing(0))
		shows(t, "Close(0)", s,
			api.Pipe{Come: 2, Sent: 6, Moved: 3, ReadAll: 1, Stalled: stalled, Closed: true},
			api.Pipe{Come: 4, Sent: 6, Moved: 6, ReadAll: 2, Stalled: stalled, Closed: true})
		reads(t, s, 1, 10, "cdef")
		over(t, s, 1)
		reads(t, s, 0, 1, "v")
		reads(t, s, 0, 10, "w")
		over(t, s, 0)

		s = both(t, stall(0, stalled), stall(1, stalled), closing(1))
		shows(t, "Close(1)", s,
			api.Pipe{Come: 5, Sent: 6, Moved: 6, ReadAll: 1, Stalled: stalled, Closed: true},
			api.Pipe{Come: 2, Sent: 6, Moved: 4, ReadAll: 2, Stalled: stalled, Closed: true})
		reads(t, s, 1, 10, "cd")
		over(t, s, 1)
		reads(t, s, 0, 10, "vwxyz")
		over(t, s, 0)
	}
}

// A close that brings nothing: it is over for both ends at once.
func TestCloseOfNothing(t *testing.T) {
	for end := range 2 {
		s := build(t, send(1-end, "abc"), closing(end))
		over(t, s, 0)
		over(t, s, 1)
		want := [2]api.Pipe{{Closed: true}, {Closed: true}}
		want[1-end].Sent = 3
		shows(t, "Close", s, want[:]...)
	}
}

// What is not open any more refuses all but Read and State, and gives what has come as if nothing had been asked.
func TestNotOpen(t *testing.T) {
	for _, end := range []attempt{snap(), closing(0), closing(1)} {
		for _, stalled := range []bool{false, true} {
			s := both(t, stall(0, stalled), stall(1, stalled), end)
			for own := range 2 {
				refuses(t, s, api.ErrClosed, send(own, ""), send(own, "x"), move(own, 0), move(own, 1), move(own, -1), move(own, math.MaxInt),
					stall(own, true), stall(own, false), snap(), closing(own))
			}
			tail, head := "cd", "vw"
			switch end.name {
			case "Close(0)":
				tail = "cdef"
			case "Close(1)":
				head = "vwxyz"
			}
			reads(t, s, 0, 10, head)
			reads(t, s, 1, 10, tail)
			for own := range 2 {
				over(t, s, own)
				refuses(t, s, api.ErrClosed, send(own, "x"), move(own, 0), stall(own, true), snap(), closing(own))
			}
		}
	}
}

// A stream that is not open tells so ahead of bytes that are too many.
func TestNotOpenTooLong(t *testing.T) {
	text := string(make([]byte, api.MaxStream+1))
	for end := range 2 {
		refuses(t, build(t, snap()), api.ErrClosed, send(end, text))
		refuses(t, build(t, closing(0)), api.ErrClosed, send(end, text))
	}
}

// P5.7: each number counts what it says, at both ends at once and apart.
func TestState(t *testing.T) {
	s := build(t, send(0, "abcdefg"), move(0, 5), read(1, 3), send(0, "h"), send(1, "wxyz"), move(1, 3), read(0, 1), stall(1, true))
	shows(t, "State", s,
		api.Pipe{Under: 3, Come: 2, Sent: 8, Moved: 3, ReadAll: 1},
		api.Pipe{Under: 1, Come: 2, Sent: 4, Moved: 5, ReadAll: 3, Stalled: true})
	shows(t, "State again", s, states(t, s)[0], states(t, s)[1])
	done(t, "Close", s.Close(1))
	shows(t, "closed", s,
		api.Pipe{Come: 3, Sent: 8, Moved: 4, ReadAll: 1, Closed: true},
		api.Pipe{Come: 2, Sent: 4, Moved: 5, ReadAll: 3, Stalled: true, Closed: true})
}

// P5.8, P5.9, told by hand: chunks of any lengths are put together in order, and what an end has sent is what came across and what is under way.
func TestChunks(t *testing.T) {
	const text = "the quick brown fox jumps over the lazy dog"
	for sent := 1; sent < len(text); sent += 4 {
		for moved := 1; moved < len(text); moved += 3 {
			s := build(t)
			var got bytes.Buffer
			for from := 0; from < len(text) || got.Len() < len(text); from += sent {
				if from > 100*sent*len(text) {
					t.Fatalf("only %q comes of %q", got.String(), text)
				}
				if from < len(text) {
					done(t, "Send", s.Send(0, []byte(text[from:min(from+sent, len(text))])))
				}
				done(t, "Move", s.Move(0, min(moved, states(t, s)[0].Under)))
				b, err := s.Read(1, (sent+moved)%7+1)
				done(t, "Read", err)
				got.Write(b)
				p := states(t, s)
				if p[0].Sent != p[1].Moved+p[0].Under || p[1].Moved != p[1].Come+p[1].ReadAll || p[1].ReadAll != got.Len() {
					t.Fatalf("%+v", p)
				}
				if got.String() != text[:got.Len()] {
					t.Fatalf("%q was read of %q", got.String(), text)
				}
			}
		}
	}
}

// smear changes all that a slice reaches.
func smear(b []byte) {
	b = b[:cap(b)]
	for i := range b {
		b[i] = '?'
	}
}

// Rule 4: nothing that is handed in or out is the stream's memory.
func TestMemory(t *testing.T) {
	s := stream.New()
	room := []byte("abcdefgh....")
	b := room[:4]
	done(t, "Send", s.Send(0, b))
	done(t, "Send", s.Send(0, room[4:8]))
	if string(room) != "abcdefgh...." {
		t.Errorf("Send made %q of what it was given", room)
	}
	smear(room)
	done(t, "Move", s.Move(0, 6))
	one, err := s.Read(1, 2)
	done(t, "Read", err)
	two, err := s.Read(1, 2)
	done(t, "Read", err)
	smear(one)
	if string(two) != "cd" {
		t.Errorf("two answers share memory: %q", two)
	}
	smear(two)
	none, err := s.Read(1, 0)
	done(t, "Read", err)
	smear(append(none, "12345678"...))
	smear(append(one, "12345678"...))
	reads(t, s, 1, 2, "ef")
	done(t, "Send", s.Send(0, []byte("ij")))
	done(t, "Close", s.Close(0))
	reads(t, s, 1, 10, "ghij")
}

// Rule 5: what is done to one stream changes nothing of another.
func TestTwoStreams(t *testing.T) {
	a, b := both(t), both(t)
	before := states(t, b)
	done(t, "Send", a.Send(0, []byte("more")))
	done(t, "Stall", a.Stall(1, true))
	done(t, "Close", a.Close(0))
	reads(t, a, 1, 20, "cdefmore")
	if now := states(t, b); now != before {
		t.Errorf("calls of one stream made %+v of another's %+v", now, before)
	}
	done(t, "Move", b.Move(0, 2))
	reads(t, b, 1, 20, "cdef")
	reads(t, b, 0, 20, "vw")
}
