package stream_test

import (
	"bytes"
	"math"
	"testing"

	"heddle/api"
	"heddle/stream"
)

// Bytes of which no short run comes again soon, so that one that is lost or told twice is seen.
func pattern(n int) string {
	b := make([]byte, n)
	for i := range b {
		b[i] = byte(i*7 + i/251*13 + i/65521)
	}
	return string(b)
}

// P5.2: MaxStream bytes of an end may be under way, one more may not.
func TestSendAtTheLimit(t *testing.T) {
	text := pattern(api.MaxStream + 1)
	for end := range 2 {
		s := build(t)
		refuses(t, s, api.ErrLong, send(end, text))
		done(t, "Send", s.Send(end, []byte(text[:api.MaxStream-1])))
		refuses(t, s, api.ErrLong, send(end, "xy"), send(end, text))
		done(t, "Send", s.Send(end, []byte(text[api.MaxStream-1:api.MaxStream])))
		refuses(t, s, api.ErrLong, send(end, "x"), send(end, text))
		done(t, "Send of nothing", s.Send(end, nil))
		want := [2]api.Pipe{}
		want[end] = api.Pipe{Under: api.MaxStream, Sent: api.MaxStream}
		shows(t, "full", s, want[:]...)

		// The other end's bytes have room of their own, and moved ones make room.
		done(t, "Send of the other end", s.Send(1-end, []byte(text[:api.MaxStream])))
		done(t, "Move", s.Move(end, 1))
		refuses(t, s, api.ErrLong, send(end, "xy"))
		done(t, "Send", s.Send(end, []byte(text[api.MaxStream:])))
		refuses(t, s, api.ErrLong, send(end, "x"), send(1-end, "x"))
		reads(t, s, 1-end, math.MaxInt, text[:1])
		done(t, "Move", s.Move(end, api.MaxStream))
		reads(t, s, 1-end, math.MaxInt, text[1:])
	}
}

// P5.3: MaxStream bytes may have come to an end and not be read, one more may not; what is read makes room.
func TestMoveAtTheLimit(t *testing.T) {
	text := pattern(api.MaxStream + 100)
	for end := range 2 {
		s := build(t, send(end, text[:api.MaxStream]), move(end, api.MaxStream), send(end, text[api.MaxStream:]))
		refuses(t, s, api.ErrMany, move(end, 1), move(end, 100))
		done(t, "Move of nothing", s.Move(end, 0))
		refuses(t, s, api.ErrMoves, move(end, 101), move(end, math.MaxInt))
		refuses(t, s, api.ErrArg, move(end, -1))

		reads(t, s, 1-end, 40, text[:40])
		refuses(t, s, api.ErrMany, move(end, 41), move(end, 100))
		done(t, "Move", s.Move(end, 40))
		refuses(t, s, api.ErrMany, move(end, 1), move(end, 60))
		refuses(t, s, api.ErrMoves, move(end, 61))
		want := [2]api.Pipe{}
		want[end] = api.Pipe{Under: 60, Sent: api.MaxStream + 100}
		want[1-end] = api.Pipe{Come: api.MaxStream, Moved: api.MaxStream + 40, ReadAll: 40}
		shows(t, "full", s, want[:]...)

		done(t, "Stall", s.Stall(end, true))
		refuses(t, s, api.ErrStalled, move(end, 1), move(end, 0))
		done(t, "Stall", s.Stall(end, false))
		reads(t, s, 1-end, math.MaxInt, text[40:api.MaxStream+40])
		done(t, "Move", s.Move(end, 60))
		reads(t, s, 1-end, math.MaxInt, text[api.MaxStream+40:])
	}
}

// Bytes of the other end have room of their own: an end to which MaxStream bytes have come may move its own.
func TestMoveWhereOnlyTheOtherIsFull(t *testing.T) {
	text := pattern(api.MaxStream)
	s := build(t, send(0, text), move(0, api.MaxStream), send(1, text), move(1, api.MaxStream))
	full := api.Pipe{Come: api.MaxStream, Sent: api.MaxStream, Moved: api.MaxStream}
	shows(t, "both full", s, full, full)
	reads(t, s, 0, api.MaxStream, text)
	reads(t, s, 1, api.MaxStream+1, text)
}

// P5.6: a close brings all that its end has sent, though more than MaxStream bytes have come then; stalled or not.
func TestCloseBeyondTheLimit(t *testing.T) {
	text := pattern(2 * api.MaxStream)
	for end := range 2 {
		for _, stalled := range []bool{false, true} {
			s := build(t, send(end, text[:api.MaxStream]), move(end, api.MaxStream), send(end, text[api.MaxStream:]),
				send(1-end, "lost"), stall(end, stalled), closing(end))
			want := [2]api.Pipe{}
			want[end] = api.Pipe{Sent: len(text), Stalled: stalled, Closed: true}
			want[1-end] = api.Pipe{Come: len(text), Sent: 4, Moved: len(text), Closed: true}
			shows(t, "Close", s, want[:]...)
			refuses(t, s, api.ErrClosed, move(end, 0), move(end, 1), send(end, "x"))
			over(t, s, end)
			reads(t, s, 1-end, api.MaxStream+1, text[:api.MaxStream+1])
			reads(t, s, 1-end, math.MaxInt, text[api.MaxStream+1:])
			over(t, s, 1-end)
		}
	}
}

// Sent, Moved and ReadAll go on above MaxStream; each step costs no more than its bytes, however many are under way.
func TestLongRun(t *testing.T) {
	text := []byte(pattern(1 << 16))
	s := stream.New()
	for range api.MaxStream/len(text) - 1 {
		done(t, "Send", s.Send(0, text))
	}
	const laps = 3 * api.MaxStream / (1 << 16)
	var got bytes.Buffer
	for range laps {
		for from := 0; from < len(text); from += 64 {
			done(t, "Send", s.Send(0, text[from:from+64]))
			done(t, "Move", s.Move(0, 64))
			b, err := s.Read(1, 64)
			done(t, "Read", err)
			got.Write(b)
		}
		if !bytes.Equal(got.Bytes(), text) {
			t.Fatal("other bytes come than were sent")
		}
		got.Reset()
	}
	shows(t, "long", s,
		api.Pipe{Under: api.MaxStream - len(text), Sent: api.MaxStream + (laps-1)*len(text)},
		api.Pipe{Moved: laps * len(text), ReadAll: laps * len(text)})
}
