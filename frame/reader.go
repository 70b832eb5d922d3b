package frame

import (
	"bytes"

	"heddle/api"
)

// Reader puts frames together.
type Reader struct {
	self  *Reader // a reader that was copied by hand would share its bytes: nobody made that one
	known api.Framing
	bytes []byte // the last known.Held of them are in no frame that was told
}

// New makes a reader.
func New(width int) (*Reader, error) {
	if _, ok := greatest(width); !ok {
		return nil, refuse(0, api.ErrArg)
	}
	r := &Reader{known: api.Framing{Width: width}}
	r.self = r
	return r, nil
}

func (r *Reader) made() bool { return r != nil && r.self == r }

// enter tells what stands in the way of every call that may be refused.
func (r *Reader) enter() error {
	switch {
	case !r.made():
		return refuse(0, api.ErrZero)
	case r.known.Dead:
		return refuse(r.known.Bytes, api.ErrFrame)
	}
	return nil
}

// Feed: bytes that came.
func (r *Reader) Feed(b []byte) error {
	if err := r.enter(); err != nil {
		return err
	}
	if len(b) > api.MaxHeld-r.known.Held {
		return refuse(0, api.ErrLong)
	}
	r.bytes = append(r.bytes, b...)
	r.known.Held += len(b)
	return nil
}

// Next: the next body, if it is there.
func (r *Reader) Next() ([]byte, bool, error) {
	if err := r.enter(); err != nil {
		return nil, false, err
	}
	body, whole, err := cut(r.known.Width, r.held(), r.known.Bytes)
	if err != nil {
		r.die()
		return nil, false, err
	}
	if !whole {
		return nil, false, nil
	}
	r.told(len(body))
	return bytes.Clone(body), true, nil
}

// Widen: lengths have four bytes from now on.
func (r *Reader) Widen() error {
	if err := r.enter(); err != nil {
		return err
	}
	if r.known.Width == 4 {
		return refuse(0, api.ErrTwice)
	}
	r.known.Width = 4
	return nil
}

// State is what is known of it.
func (r *Reader) State() api.Framing {
	if !r.made() {
		return api.Framing{}
	}
	return r.known
}

func (r *Reader) held() []byte { return r.bytes[len(r.bytes)-r.known.Held:] }

// die is a reader's end. Its bytes are never asked for again: how many they are is enough.
func (r *Reader) die() {
	r.known.Dead = true
	r.bytes = nil
}

// told counts the first of the frames that are held, with a body of n bytes, as one that is held no more.
func (r *Reader) told(n int) {
	frame := r.known.Width + n
	r.known.Held -= frame
	r.known.Bytes += frame
	r.known.Frames++
	if r.known.Width == 4 && n == 0 {
		r.known.Ticks++
	}
	// Bytes of told frames are not kept for ever. They are dropped when no more stay than go, so that no more bytes are copied than were told.
	if gone := len(r.bytes) - r.known.Held; gone >= r.known.Held {
		r.bytes = bytes.Clone(r.held())
	}
}
