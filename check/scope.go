package check

// nobody is the text of a variable that is no name.
const nobody = "_"

// standing is how a name stands at a place.
type standing byte

const (
	isUnbound standing = iota
	isBound
	isUnsafe
)

// standings are those of all slots; of slots behind their end the names are unbound.
type standings []standing

func (s standings) of(slot int) standing {
	if slot >= len(s) {
		return isUnbound
	}
	return s[slot]
}

// join tells how names stand where two ways meet: as on both, or they are unsafe.
func join(a, b standings) standings {
	behind := make(standings, max(len(a), len(b)))
	for slot := range behind {
		behind[slot] = a.of(slot)
		if b.of(slot) != a.of(slot) {
			behind[slot] = isUnsafe
		}
	}
	return behind
}

// scope is the names of a clause of a function: their slots, and how they stand at the place at hand. A name keeps its slot where it is unbound again, on another way.
type scope struct {
	slots map[string]int
	now   standings
}

func newScope() scope { return scope{slots: map[string]int{}} }

// find tells how a name stands, and its slot, if it has one.
func (s *scope) find(name string) (int, standing) {
	slot, met := s.slots[name]
	if !met {
		return 0, isUnbound
	}
	return slot, s.now.of(slot)
}

// bind binds an unbound name, and tells its slot.
func (s *scope) bind(name string) int {
	slot, met := s.slots[name]
	if !met {
		slot = len(s.slots)
		s.slots[name] = slot
	}
	for slot >= len(s.now) {
		s.now = append(s.now, isUnbound)
	}
	s.now[slot] = isBound
	return slot
}
