package shake

import (
	"bytes"
	"slices"

	"heddle/api"
)

// The statuses that there are.
const (
	statusOK           = "ok"
	statusSimultaneous = "ok_simultaneous"
	statusNok          = "nok"
	statusNotAllowed   = "not_allowed"
	statusAlive        = "alive"
)

func isStatus(s string) bool {
	switch s {
	case statusOK, statusSimultaneous, statusNok, statusNotAllowed, statusAlive:
		return true
	}
	return false
}

// field is a field of a message.
type field int

const (
	fieldFlags field = iota
	fieldChallenge
	fieldCreation
	fieldName
	fieldStatus
	fieldDigest
	fieldCount
)

const digestWidth = 16

// shape is what a kind of message is as bytes: a letter, and these fields behind it.
type shape struct {
	letter byte
	fields []field
}

// shapeOf is a kind's shape, and whether there is such a kind.
func shapeOf(k api.ShakeKind) (shape, bool) {
	switch k {
	case api.HName:
		return shape{'N', []field{fieldFlags, fieldCreation, fieldName}}, true
	case api.HStatus:
		return shape{'s', []field{fieldStatus}}, true
	case api.HChallenge:
		return shape{'N', []field{fieldFlags, fieldChallenge, fieldCreation, fieldName}}, true
	case api.HReply:
		return shape{'r', []field{fieldChallenge, fieldDigest}}, true
	case api.HAck:
		return shape{'a', []field{fieldDigest}}, true
	}
	return shape{}, false
}

func (x shape) has(f field) bool { return slices.Contains(x.fields, f) }

// fits tells whether a message has no other fields than these, and none of these that has no bytes. Of names it knows nothing: what they are is for another layer to say.
func (x shape) fits(m api.Shake) bool {
	for f := range fieldCount {
		if x.has(f) && !f.may(m) || !x.has(f) && !f.isZero(m) {
			return false
		}
	}
	return true
}

// read is the message whose fields stand behind the letter, and the place where they end: one behind all bytes, if these run out.
func (x shape) read(b []byte) (api.Shake, int) {
	var m api.Shake
	end := 1
	for _, f := range x.fields {
		start := end
		end += f.width(b[start:])
		if end > len(b) {
			break
		}
		f.read(&m, b[start:end])
	}
	return m, end
}

// width is how many bytes the field has with which bytes begin: more than there are, where these are too few to tell it.
func (f field) width(rest []byte) int {
	switch f {
	case fieldFlags:
		return 8
	case fieldChallenge, fieldCreation:
		return 4
	case fieldDigest:
		return digestWidth
	case fieldName:
		if len(rest) < 2 {
			return 2
		}
		return 2 + int(number(rest[:2]))
	}
	// Nothing tells a status' length: it is all that there is.
	return len(rest)
}

// read puts a field's bytes, all of them, into a message.
func (f field) read(m *api.Shake, b []byte) {
	switch f {
	case fieldFlags:
		m.Flags = number(b)
	case fieldChallenge:
		m.Challenge = uint32(number(b))
	case fieldCreation:
		m.Creation = uint32(number(b))
	case fieldName:
		m.Name = string(b[2:])
	case fieldStatus:
		m.Status = string(b)
	case fieldDigest:
		m.Digest = bytes.Clone(b)
	}
}

// write puts a field of a message behind bytes.
func (f field) write(b []byte, m api.Shake) []byte {
	switch f {
	case fieldFlags:
		return appendNumber(b, 8, m.Flags)
	case fieldChallenge:
		return appendNumber(b, 4, uint64(m.Challenge))
	case fieldCreation:
		return appendNumber(b, 4, uint64(m.Creation))
	case fieldName:
		return append(appendNumber(b, 2, uint64(len(m.Name))), m.Name...)
	case fieldStatus:
		return append(b, m.Status...)
	}
	return append(b, m.Digest...)
}

// may tells whether a field has bytes at all.
func (f field) may(m api.Shake) bool {
	switch f {
	case fieldStatus:
		return isStatus(m.Status)
	case fieldDigest:
		return len(m.Digest) == digestWidth
	}
	return true
}

func (f field) isZero(m api.Shake) bool {
	switch f {
	case fieldFlags:
		return m.Flags == 0
	case fieldChallenge:
		return m.Challenge == 0
	case fieldCreation:
		return m.Creation == 0
	case fieldName:
		return m.Name == ""
	case fieldStatus:
		return m.Status == ""
	}
	return len(m.Digest) == 0
}

// number is what bytes are, the greatest first.
func number(b []byte) uint64 {
	var n uint64
	for _, c := range b {
		n = n<<8 | uint64(c)
	}
	return n
}

// appendNumber puts so many bytes of a number, the greatest first, behind others.
func appendNumber(b []byte, width int, n uint64) []byte {
	for shift := 8 * (width - 1); shift >= 0; shift -= 8 {
		b = append(b, byte(n>>shift))
	}
	return b
}
