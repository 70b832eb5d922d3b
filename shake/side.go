package shake

import (
	"errors"
	"slices"
	"strings"

	"heddle/api"
	"heddle/mix"
)

// Side is one of both. What it keeps of what it was made of it needs to come up: it forgets that at its end.
type Side struct {
	self      *Side // a side that was copied by hand would go on with this one's handshake: nobody made that one
	known     api.Shaking
	me        api.Peer // of a side that waits: one that begins tells it at once
	peer      string   // of a side that begins: whom it wants
	cookie    string
	challenge uint32
}

// Begin makes the side that begins, and its first message.
func Begin(me api.Peer, peer string, cookie string, challenge uint32) (*Side, []byte, error) {
	if err := permit(me, cookie, peer); err != nil {
		return nil, nil, err
	}
	s := &Side{peer: strings.Clone(peer)}
	s.start(api.WaitStatus, cookie, challenge)
	return s, tell(api.Shake{Kind: api.HName, Flags: me.Flags, Creation: me.Creation, Name: me.Name}), nil
}

// Wait makes the other one.
func Wait(me api.Peer, cookie string, challenge uint32) (*Side, error) {
	if err := permit(me, cookie); err != nil {
		return nil, err
	}
	s := &Side{me: me}
	s.me.Name = strings.Clone(me.Name)
	s.start(api.WaitName, cookie, challenge)
	return s, nil
}

// permit tells what stands in the way of a side: one that waits has no peers, one that begins has one.
func permit(me api.Peer, cookie string, peers ...string) error {
	for _, s := range slices.Concat([]string{me.Name}, peers) {
		if err := checkName(0, s); err != nil {
			return err
		}
	}
	if err := checkPeer(me); err != nil {
		return err
	}
	if slices.Contains(peers, me.Name) {
		return refuse(0, api.ErrTwice)
	}
	return wrap(0, mix.Cookie(cookie))
}

// checkPeer refuses a node that may take no part in a handshake. A flag that it lacks is told ahead of all else.
func checkPeer(p api.Peer) error {
	if p.Flags&api.FlagsNeeded != api.FlagsNeeded {
		return refuse(0, api.ErrPeer)
	}
	if p.Creation == 0 {
		return refuse(0, api.ErrArg)
	}
	return nil
}

// lacksFlag tells whether a node may take no part for its flags' sake, whatever else there is.
func lacksFlag(p api.Peer) bool { return errors.Is(checkPeer(p), api.ErrPeer) }

// start is where a side begins. Its texts may be cut from far greater ones, which it must not keep alive.
func (s *Side) start(state api.ShakeState, cookie string, challenge uint32) {
	s.self = s
	s.known.State = state
	s.cookie = strings.Clone(cookie)
	s.challenge = challenge
}

func (s *Side) made() bool { return s != nil && s.self == s }

// enter tells what stands in the way of Take or, if somebody answers, of Answer.
func (s *Side) enter(answers bool) error {
	if !s.made() {
		return refuse(0, api.ErrZero)
	}
	switch s.known.State {
	case api.ShakeDead:
		return refuse(0, api.ErrEnd)
	case api.WaitAnswer:
		if answers {
			return nil
		}
		fallthrough
	case api.ShakeUp:
		return refuse(0, api.ErrState)
	}
	if answers {
		return refuse(0, api.ErrState)
	}
	return nil
}

// Take: a message that came; those that are to be sent.
func (s *Side) Take(b []byte) ([][]byte, error) {
	if err := s.enter(false); err != nil {
		return nil, err
	}
	told, err := s.stage().handle(b)
	if err != nil {
		s.die()
		return nil, err
	}
	return told, nil
}

// Answer: a status for the name that came; what is to be sent.
func (s *Side) Answer(status string) ([][]byte, error) {
	if err := s.enter(true); err != nil {
		return nil, err
	}
	if !isStatus(status) {
		return nil, refuse(0, api.ErrArg)
	}
	if p := s.known.Peer; checkPeer(p) != nil || p.Name == s.me.Name {
		status = statusNotAllowed
	}
	told := [][]byte{tell(api.Shake{Kind: api.HStatus, Status: status})}
	switch status {
	case statusSimultaneous:
		s.known.Simult = true
		fallthrough
	case statusOK:
		s.known.State = api.WaitReply
		return append(told, tell(api.Shake{Kind: api.HChallenge, Flags: s.me.Flags, Challenge: s.challenge, Creation: s.me.Creation, Name: s.me.Name})), nil
	}
	s.die()
	return told, nil
}

// Now is where it is.
func (s *Side) Now() api.Shaking {
	if !s.made() {
		return api.Shaking{}
	}
	return s.known
}

// rise is a side's end, if all went well.
func (s *Side) rise() {
	s.known.State = api.ShakeUp
	*s = Side{self: s, known: s.known}
}

// die is a side's end, if it did not.
func (s *Side) die() { *s = Side{self: s, known: api.Shaking{State: api.ShakeDead}} }

// digest shows a challenge's teller that this side knows the cookie. There is one: no side was made without it.
func (s *Side) digest(challenge uint32) []byte {
	d, _ := mix.Digest(s.cookie, challenge)
	return d
}

// isShown tells whether a digest shows this side that the other one knows the cookie.
func (s *Side) isShown(digest []byte) bool { return mix.Same(s.cookie, s.challenge, digest) }

// tell is a message of a side's own. It has bytes: names were asked for when the side was made.
func tell(m api.Shake) []byte {
	b, _ := Write(m)
	return b
}
