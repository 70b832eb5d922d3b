package shake_test

import (
	"math/rand"
	"slices"
	"strconv"
	"testing"

	"heddle/api"
	"heddle/mix"
	"heddle/sample"
	"heddle/shake"
)

// model is a side told once more.
type model struct {
	me        api.Peer
	peer      string // "": it waits
	cookie    string
	challenge uint32
	known     api.Shaking
}

// digested: the digest of a cookie and a challenge.
func digested(cookie string, challenge uint32) []byte {
	d, err := mix.Digest(cookie, challenge)
	if err != nil {
		panic(err)
	}
	return d
}

// waited: the kind of message for which a state waits; 0 of none.
var waited = map[api.ShakeState]api.ShakeKind{api.WaitStatus: api.HStatus, api.WaitChallenge: api.HChallenge, api.WaitAck: api.HAck, api.WaitName: api.HName, api.WaitReply: api.HReply}

func needs(flags uint64) bool {
	for _, one := range eight {
		if flags&one == 0 {
			return false
		}
	}
	return true
}

func (m *model) stuck(open func() bool) api.Errno {
	switch {
	case m.known.State == api.ShakeDead:
		return api.ErrEnd
	case !open():
		return api.ErrState
	}
	return api.OK
}

// take: what is to be sent; or the fault.
func (m *model) take(b string) ([]string, *api.Fault) {
	kind := waited[m.known.State]
	if code := m.stuck(func() bool { return kind != 0 }); code != api.OK {
		return nil, &api.Fault{Layer: "shake", Code: code}
	}
	x, fault := found(kind, b)
	if fault == nil {
		if code := m.judge(x); code != api.OK {
			fault = &api.Fault{Layer: "shake", Code: code}
		}
	}
	if fault != nil {
		m.known = api.Shaking{State: api.ShakeDead}
		return nil, fault
	}
	p := api.Peer{Name: x.Name, Flags: x.Flags, Creation: x.Creation}
	switch m.known.State {
	case api.WaitStatus:
		m.known = api.Shaking{State: api.WaitChallenge, Simult: x.Status == "ok_simultaneous"}
	case api.WaitChallenge:
		m.known.State, m.known.Peer = api.WaitAck, p
		return []string{laid(api.Shake{Kind: api.HReply, Challenge: m.challenge, Digest: digested(m.cookie, x.Challenge)})}, nil
	case api.WaitName:
		m.known.State, m.known.Peer = api.WaitAnswer, p
	case api.WaitAck:
		m.known.State = api.ShakeUp
	case api.WaitReply:
		m.known.State = api.ShakeUp
		return []string{laid(api.Shake{Kind: api.HAck, Digest: digested(m.cookie, x.Challenge)})}, nil
	}
	return nil, nil
}

// judge: the number with which a message of the right kind is refused.
func (m *model) judge(x api.Shake) api.Errno {
	switch {
	case x.Kind == api.HStatus && x.Status != "ok" && x.Status != "ok_simultaneous":
		return api.ErrStatus
	case x.Kind == api.HChallenge && (x.Name != m.peer || !needs(x.Flags)):
		return api.ErrPeer
	case len(x.Digest) > 0 && string(x.Digest) != string(digested(m.cookie, m.challenge)):
		return api.ErrDigest
	}
	return api.OK
}

// answer: what is to be sent; or the fault.
func (m *model) answer(status string) ([]string, *api.Fault) {
	code := m.stuck(func() bool { return m.known.State == api.WaitAnswer })
	if code == api.OK && !slices.Contains(statuses, status) {
		code = api.ErrArg
	}
	if code != api.OK {
		return nil, &api.Fault{Layer: "shake", Code: code}
	}
	if p := m.known.Peer; !needs(p.Flags) || p.Creation == 0 || p.Name == m.me.Name {
		status = "not_allowed"
	}
	if status != "ok" && status != "ok_simultaneous" {
		m.known = api.Shaking{State: api.ShakeDead}
		return []string{"s" + status}, nil
	}
	m.known.State, m.known.Simult = api.WaitReply, status == "ok_simultaneous"
	return []string{"s" + status, laid(api.Shake{Kind: api.HChallenge, Flags: m.me.Flags, Challenge: m.challenge, Creation: m.me.Creation, Name: m.me.Name})}, nil
}

// call is one: a message that is taken, or a status that is answered.
type call struct {
	answer bool
	text   string
}

func (c call) String() string {
	if c.answer {
		return "Answer " + strconv.Quote(c.text)
	}
	return "Take " + strconv.Quote(c.text)
}

// pair is a side and its model, and the calls that were done to both.
type pair struct {
	s    *shake.Side
	m    model
	path []call
}

// couple: a side that wants a peer, or that waits, if there is none.
func couple(t *testing.T, me api.Peer, peer, cookie string, challenge uint32) *pair {
	t.Helper()
	p := &pair{m: model{me: me, peer: peer, cookie: cookie, challenge: challenge, known: api.Shaking{State: api.WaitName}}}
	if peer == "" {
		p.s = waits(t, me, cookie, challenge)
	} else {
		p.m.known.State = api.WaitStatus
		p.s, _ = begins(t, me, peer, cookie, challenge)
	}
	return p
}

// try does a call to both: they agree on all that is to be seen. What is handed in and what is told is spoilt then.
func (p *pair) try(t *testing.T, c call) {
	t.Helper()
	p.path = append(p.path, c)
	var told [][]byte
	var err error
	var want []string
	var fault *api.Fault
	if c.answer {
		want, fault = p.m.answer(c.text)
		told, err = p.s.Answer(c.text)
	} else {
		b := []byte(c.text)
		want, fault = p.m.take(c.text)
		told, err = p.s.Take(b)
		if string(b) != c.text {
			t.Fatalf("%v: what is handed in is changed: %q", p.path, b)
		}
		clear(b)
	}
	var chain []api.Fault
	if fault != nil {
		chain = append(chain, *fault)
		if fault.Under != nil {
			chain = append(chain, noName)
		}
	}
	if !sample.IsFault(err, chain...) {
		t.Fatalf("%v: %v, want %v", p.path, err, fault)
	}
	if !slices.EqualFunc(told, want, func(b []byte, s string) bool { return string(b) == s }) {
		t.Fatalf("%v: %q is to be sent, want %q", p.path, told, want)
	}
	for _, b := range told {
		clear(b)
		_ = append(b, "and more"...)
	}
	if now := p.s.Now(); now != p.m.known {
		t.Fatalf("%v: %+v, want %+v", p.path, now, p.m.known)
	}
}

// menu: calls that a side of n@h that wants m@h (challenge 5) and one of m@h (challenge 6), with the cookie c, take well, and others.
func menu() []call {
	var all []call
	take := func(texts ...string) {
		for _, text := range texts {
			all = append(all, call{text: text})
		}
	}
	for _, s := range append(statuses, "", "okay") {
		all = append(all, call{true, s})
		take("s" + s)
	}
	for _, k := range []api.ShakeKind{api.HName, api.HChallenge} {
		for _, p := range []api.Peer{node("n@h", 1), node("m@h", 2), node("k@h", 3), node("n@h", 0), node("m@h", 0), {Name: "n@h", Creation: 1}, {Name: "m@h", Creation: 2}, {Name: "m@h", Flags: api.FlagsNeeded - 4}, node("n", 1)} {
			m := api.Shake{Kind: k, Flags: p.Flags, Creation: p.Creation, Name: p.Name}
			if k == api.HChallenge {
				m.Challenge = 6
			}
			take(laid(m))
		}
	}
	take(
		laid(api.Shake{Kind: api.HReply, Challenge: 5, Digest: digested("c", 6)}),
		laid(api.Shake{Kind: api.HReply, Challenge: 9, Digest: digested("c", 6)}),
		laid(api.Shake{Kind: api.HReply, Challenge: 6, Digest: digested("c", 5)}),
		laid(api.Shake{Kind: api.HReply, Challenge: 5, Digest: digested("d", 6)}),
		laid(api.Shake{Kind: api.HAck, Digest: digested("c", 5)}),
		laid(api.Shake{Kind: api.HAck, Digest: digested("c", 6)}),
		laid(api.Shake{Kind: api.HAck, Digest: digested("d", 5)}),
		"", "x", "N", "r", "a",
	)
	return all
}

// begun: a new side of each kind, as the menu asks for them.
func begun(t *testing.T, waits bool) *pair {
	t.Helper()
	if waits {
		return couple(t, node("m@h", 2), "", "c", 6)
	}
	return couple(t, node("n@h", 1), "m@h", "c", 5)
}

// P8.4 to P8.6: all rows of calls of the menu, at most one among them that changes nothing; behind a side's end every call.
func TestAllRows(t *testing.T) {
	calls := menu()
	rows := 0
	var walk func(waits bool, path []call, idle int)
	walk = func(waits bool, path []call, idle int) {
		for _, c := range calls {
			p := begun(t, waits)
			for _, x := range path {
				p.try(t, x)
			}
			before := p.m.known
			p.try(t, c)
			rows++
			left := idle
			if p.m.known == before {
				left--
			}
			switch {
			case p.m.known.State >= api.ShakeUp:
				for _, x := range calls {
					p.try(t, x)
				}
			case left >= 0:
				walk(waits, append(path[:len(path):len(path)], c), left)
			}
		}
	}
	for _, waits := range []bool{false, true} {
		walk(waits, nil, 1)
	}
	if rows < 10000 {
		t.Errorf("only %d rows", rows)
	}
}

// Rule 5: two sides of each kind in turn, with random calls of the menu, mostly those that do well; they know nothing of one another.
func TestRandomRows(t *testing.T) {
	r := rand.New(rand.NewSource(88))
	calls, ends := menu(), map[api.ShakeState]int{}
	good := map[api.ShakeState][]call{
		api.WaitStatus:    {{text: "sok"}, {text: "sok_simultaneous"}},
		api.WaitChallenge: {{text: laid(api.Shake{Kind: api.HChallenge, Flags: api.FlagsNeeded, Challenge: 6, Creation: 2, Name: "m@h"})}},
		api.WaitAck:       {{text: laid(api.Shake{Kind: api.HAck, Digest: digested("c", 5)})}},
		api.WaitName:      {{text: laid(api.Shake{Kind: api.HName, Flags: api.FlagsNeeded, Creation: 1, Name: "n@h"})}},
		api.WaitAnswer:    {{true, "ok"}, {true, "ok_simultaneous"}},
		api.WaitReply:     {{text: laid(api.Shake{Kind: api.HReply, Challenge: 5, Digest: digested("c", 6)})}},
	}
	for range 3000 {
		four := []*pair{begun(t, false), begun(t, true), begun(t, false), begun(t, true)}
		for range 24 {
			p := four[r.Intn(len(four))]
			row := good[p.m.known.State]
			if len(row) == 0 || r.Intn(8) == 0 {
				row = calls
			}
			p.try(t, row[r.Intn(len(row))])
		}
		for _, p := range four {
			ends[p.m.known.State]++
		}
	}
	if ends[api.ShakeUp] < 100 || ends[api.ShakeDead] < 100 {
		t.Errorf("where they end: %v", ends)
	}
}

// FuzzCalls takes bytes as a row of calls: the first of two says which, the second how many bytes of those behind it are the text.
func FuzzCalls(f *testing.F) {
	f.Add(false, []byte("t\x03sokt\x01N"))
	f.Add(true, []byte("t\x12"+laid(right(api.HName))+"a\x02okt\x01r"))
	f.Fuzz(func(t *testing.T, waits bool, b []byte) {
		p := begun(t, waits)
		for len(b) >= 2 {
			c, n := call{answer: b[0] == 'a'}, min(int(b[1]), len(b)-2)
			c.text, b = string(b[2:2+n]), b[2+n:]
			p.try(t, c)
		}
	})
}
