package shake

import "heddle/api"

// stage is what a state in which a side waits for a message is: the kind of it, and what is done with one.
type stage struct {
	kind api.ShakeKind
	take func(m api.Shake) ([][]byte, error)
}

// handle does with bytes what is done with the message that they are.
func (x stage) handle(b []byte) ([][]byte, error) {
	m, err := Read(x.kind, b)
	if err != nil {
		return nil, err
	}
	return x.take(m)
}

// stage is the one of the state in which a side is now.
func (s *Side) stage() stage {
	switch s.known.State {
	case api.WaitStatus:
		return stage{api.HStatus, s.takeStatus}
	case api.WaitChallenge:
		return stage{api.HChallenge, s.takeChallenge}
	case api.WaitAck:
		return stage{api.HAck, s.takeAck}
	case api.WaitName:
		return stage{api.HName, s.takeName}
	}
	return stage{api.HReply, s.takeReply}
}

func (s *Side) takeStatus(m api.Shake) ([][]byte, error) {
	switch m.Status {
	case statusSimultaneous:
		s.known.Simult = true
		fallthrough
	case statusOK:
		s.known.State = api.WaitChallenge
		return nil, nil
	}
	return nil, refuse(0, api.ErrStatus)
}

func (s *Side) takeChallenge(m api.Shake) ([][]byte, error) {
	p := peerOf(m)
	if p.Name != s.peer || lacksFlag(p) {
		return nil, refuse(0, api.ErrPeer)
	}
	s.known.State, s.known.Peer = api.WaitAck, p
	return [][]byte{tell(api.Shake{Kind: api.HReply, Challenge: s.challenge, Digest: s.digest(m.Challenge)})}, nil
}

func (s *Side) takeAck(m api.Shake) ([][]byte, error) {
	if !s.isShown(m.Digest) {
		return nil, refuse(0, api.ErrDigest)
	}
	s.rise()
	return nil, nil
}

// takeName asks nothing of a name: who may not take part is told so by Answer.
func (s *Side) takeName(m api.Shake) ([][]byte, error) {
	s.known.State, s.known.Peer = api.WaitAnswer, peerOf(m)
	return nil, nil
}

func (s *Side) takeReply(m api.Shake) ([][]byte, error) {
	if !s.isShown(m.Digest) {
		return nil, refuse(0, api.ErrDigest)
	}
	ack := tell(api.Shake{Kind: api.HAck, Digest: s.digest(m.Challenge)})
	s.rise()
	return [][]byte{ack}, nil
}

func peerOf(m api.Shake) api.Peer {
	return api.Peer{Name: m.Name, Flags: m.Flags, Creation: m.Creation}
}
