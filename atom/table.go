package atom

import (
	"errors"
	"strings"

	"heddle/api"
)

const maxLimit = 1 << 20

// Table gives atoms numbers.
type Table struct {
	self    *Table // a table that was copied by hand would share its map: nobody made that one
	limit   int
	texts   []string
	numbers map[string]int
}

// New makes a table for so many atoms.
func New(limit int) (*Table, error) {
	if limit < 0 || limit > maxLimit {
		return nil, refuse(0, api.ErrArg)
	}
	t := &Table{limit: limit, numbers: map[string]int{}}
	t.self = t
	return t, nil
}

func (t *Table) made() bool { return t != nil && t.self == t }

// Put is an atom's number; a new one, if it has none.
func (t *Table) Put(s string) (int, error) {
	if !t.made() {
		return 0, refuse(0, api.ErrZero)
	}
	var fault *api.Fault
	if err := checkText(s); errors.As(err, &fault) {
		return 0, refuse(fault.At, fault.Code)
	}
	if n, ok := t.numbers[s]; ok {
		return n, nil
	}
	n := len(t.texts)
	if n >= t.limit {
		return 0, refuse(0, api.ErrMany)
	}
	// s may be cut from a far greater text, which the table must not keep alive.
	text := strings.Clone(s)
	t.numbers[text] = n
	t.texts = append(t.texts, text)
	return n, nil
}

// Find is an atom's number, if it has one.
func (t *Table) Find(s string) (int, bool) {
	if !t.made() {
		return 0, false
	}
	n, ok := t.numbers[s]
	return n, ok
}

// Text is the atom of a number.
func (t *Table) Text(n int) (string, error) {
	if !t.made() {
		return "", refuse(0, api.ErrZero)
	}
	if n < 0 || n >= len(t.texts) {
		return "", refuse(0, api.ErrRange)
	}
	return t.texts[n], nil
}

// Len is how many atoms there are.
func (t *Table) Len() int {
	if !t.made() {
		return 0
	}
	return len(t.texts)
}

// Free is how many more may be.
func (t *Table) Free() int {
	if !t.made() {
		return 0
	}
	return t.limit - len(t.texts)
}
