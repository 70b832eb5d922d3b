package mix

import "heddle/api"

// Gen makes challenges.
type Gen struct {
	self  *Gen // a generator that was copied by hand would tell this one's challenges again: nobody made that one
	s     uint64
	count int
}

// New makes a generator with a seed.
func New(seed uint64) *Gen {
	g := &Gen{s: seed}
	g.self = g
	return g
}

func (g *Gen) made() bool { return g != nil && g.self == g }

// Next is the next challenge.
func (g *Gen) Next() (uint32, error) {
	if !g.made() {
		return 0, refuse(0, api.ErrZero)
	}
	g.count++
	return challenge(g.step), nil
}

// Count is how many there were.
func (g *Gen) Count() int {
	if !g.made() {
		return 0
	}
	return g.count
}

// step moves the generator on to its next number.
func (g *Gen) step() uint64 {
	g.s += 11400714819323198485
	return g.s
}

// challenge is made of the number to which one step leads: numbers lie evenly, challenges do not look so.
func challenge(step func() uint64) uint32 {
	z := step()
	z = (z ^ (z >> 30)) * 13787848793156543929
	z = (z ^ (z >> 27)) * 10723151780598845931
	z ^= z >> 31
	return uint32(z >> 32)
}
