package stream

import "heddle/api"

// side is what is kept of an end. All that it read is not: it is what came to it, less what has come and is not read.
type side struct {
	under   queue
	come    queue
	sent    int
	moved   int
	stalled bool
}

// pipe is what is to be seen of an end; whether the stream is closed it cannot know.
func (x *side) pipe() api.Pipe {
	come := x.come.size()
	return api.Pipe{Under: x.under.size(), Come: come, Sent: x.sent, Moved: x.moved, ReadAll: x.moved - come, Stalled: x.stalled}
}

// pass lets the first n of the bytes under way come to the other end.
func (x *side) pass(n int, other *side) {
	other.come.put(x.under.take(n))
	other.moved += n
}

// parcel is what a Send was given.
type parcel []byte

func (b parcel) send(own, _ *side) error {
	if len(b) > api.MaxStream-own.under.size() {
		return refuse(api.ErrLong)
	}
	own.under.put(b)
	own.sent += len(b)
	return nil
}

// amount is what a Move was given.
type amount int

func (n amount) move(own, other *side) error {
	switch {
	case n < 0:
		return refuse(api.ErrArg)
	case own.stalled:
		return refuse(api.ErrStalled)
	case int(n) > own.under.size():
		return refuse(api.ErrMoves)
	case int(n) > api.MaxStream-other.come.size():
		return refuse(api.ErrMany)
	}
	own.pass(int(n), other)
	return nil
}

// brake is what a Stall was given.
type brake bool

func (yes brake) set(own, _ *side) error {
	own.stalled = bool(yes)
	return nil
}
