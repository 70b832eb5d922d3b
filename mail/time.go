package mail

import (
	"heddle/api"
	"heddle/term"
)

// Wait tells whether a process waits, for so long from now on.
func (b *Box) Wait(now int, t api.Term) (bool, error) {
	if err := b.checkTime(now); err != nil {
		return false, err
	}
	ticks, ends, err := span(t)
	if err != nil {
		return false, err
	}
	if ends && ticks == 0 || b.due(now) {
		b.rewind()
		return false, nil
	}
	if ends && b.deadline == 0 {
		b.deadline = now + ticks
	}
	return true, nil
}

// Expire tells whether the deadline has come.
func (b *Box) Expire(now int) (bool, error) {
	if err := b.checkTime(now); err != nil {
		return false, err
	}
	if !b.due(now) {
		return false, nil
	}
	b.rewind()
	return true, nil
}

// Deadline is it, if one is set.
func (b *Box) Deadline() (int, bool) {
	if !b.made() {
		return 0, false
	}
	return b.deadline, b.deadline > 0
}

func (b *Box) due(now int) bool { return b.deadline > 0 && b.deadline <= now }

// checkTime refuses a time that no clock tells.
func (b *Box) checkTime(now int) error {
	switch {
	case !b.made():
		return refuse(api.ErrZero)
	case !onClock(int64(now)):
		return refuse(api.ErrRange)
	}
	return nil
}

func onClock(n int64) bool { return 0 <= n && n <= api.MaxClock }

// span is for how many ticks a term tells to wait, and whether that ends at all. A value that is no term tells nothing, whatever its Kind or its Text.
func span(t api.Term) (ticks int, ends bool, err error) {
	switch t.Kind {
	case api.KInt:
		if onClock(t.Int) && term.Check(t) == nil {
			return int(t.Int), true, nil
		}
		fallthrough
	case api.KAtom:
		if term.Equal(t, api.Term{Kind: api.KAtom, Text: "infinity"}) {
			return 0, false, nil
		}
		fallthrough
	default:
		return 0, false, refuse(api.ErrTimeout)
	}
}
