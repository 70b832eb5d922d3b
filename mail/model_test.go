package mail_test

import (
	"fmt"
	"math/rand"
	"testing"

	"heddle/api"
	"heddle/mail"
	"heddle/sample"
)

// model is a box told once more: a list of all that ever came, from which nothing is ever taken away.
type model struct {
	came     []letter
	cursor   int
	deadline []int // one, or none
}

type letter struct {
	value api.Term
	taken bool
}

// step is one call: p puts x, n is Next, t is Take, w waits from now on for x, e is Expire at now. Why x is no term that may be put stands in wrong.
type step struct {
	call  byte
	now   int
	x     api.Term
	wrong []api.Fault
}

func (s step) String() string {
	return fmt.Sprintf("%c %d %s", s.call, s.now, short([]api.Term{s.x}))
}

// answer is what a call answers; of an error the chain of its faults.
type answer struct {
	message api.Term
	ok      bool
	chain   []api.Fault
}

func no(code api.Errno) answer { return answer{chain: []api.Fault{{Layer: "mail", Code: code}}} }

func (m *model) view() view {
	v := view{cursor: m.cursor}
	for _, l := range m.came {
		if !l.taken {
			v.messages = append(v.messages, l.value)
		}
	}
	if len(m.deadline) > 0 {
		v.deadline, v.set = m.deadline[0], true
	}
	return v
}

// at is the place of the message at the cursor among all that ever came; -1, if there is none.
func (m *model) at() int {
	before := 0
	for place, l := range m.came {
		if l.taken {
			continue
		}
		if before == m.cursor {
			return place
		}
		before++
	}
	return -1
}

func (m *model) end() { m.cursor, m.deadline = 0, nil }

func (m *model) hasCome(now int) bool { return len(m.deadline) > 0 && m.deadline[0] <= now }

// do is what a call answers, and does to the box.
func (m *model) do(s step) answer {
	if (s.call == 'w' || s.call == 'e') && (s.now < 0 || s.now > 1<<40) {
		return no(api.ErrRange)
	}
	place := m.at()
	if (s.call == 'n' || s.call == 't') && place < 0 {
		return no(api.ErrNone)
	}
	switch s.call {
	case 'p':
		return m.put(s)
	case 'n':
		m.cursor++
	case 't':
		m.came[place].taken = true
		m.end()
		return answer{message: m.came[place].value}
	case 'w':
		return m.wait(s.now, s.x)
	case 'e':
		if m.hasCome(s.now) {
			m.end()
			return answer{ok: true}
		}
	}
	return answer{}
}

func (m *model) put(s step) answer {
	if s.wrong != nil {
		return answer{chain: append([]api.Fault{{Layer: "mail", Code: s.wrong[0].Code}}, s.wrong...)}
	}
	if len(m.view().messages) >= 4096 {
		return no(api.ErrMany)
	}
	m.came = append(m.came, letter{value: s.x})
	return answer{}
}

func (m *model) wait(now int, x api.Term) answer {
	isInt := sample.Same(x, num(x.Int)) && x.Int >= 0 && x.Int <= 1<<40
	if !isInt && !sample.Same(x, word("infinity")) {
		return no(api.ErrTimeout)
	}
	if isInt && x.Int == 0 || m.hasCome(now) {
		m.end()
		return answer{}
	}
	if isInt && m.deadline == nil {
		m.deadline = []int{now + int(x.Int)}
	}
	return answer{ok: true}
}

// perform is the call, of the box itself.
func (s step) perform(b *mail.Box) (x api.Term, ok bool, err error) {
	switch s.call {
	case 'p':
		err = b.Put(s.x)
	case 'n':
		err = b.Next()
	case 't':
		x, err = b.Take()
	case 'w':
		ok, err = b.Wait(s.now, s.x)
	case 'e':
		ok, err = b.Expire(s.now)
	}
	return x, ok, err
}

// pair is a box and its model, and the calls that were done to both.
type pair struct {
	b    *mail.Box
	m    model
	path []step
}

func couple() *pair { return &pair{b: mail.New()} }

// try does a call to both: they agree on all that is to be seen. It answers with which number the call is refused.
func (p *pair) try(t testing.TB, s step) api.Errno {
	t.Helper()
	p.path = append(p.path, s)
	want := p.m.do(s)
	x, ok, err := s.perform(p.b)
	if !sample.Same(x, want.message) || ok != want.ok || !sample.IsFault(err, want.chain...) {
		t.Fatalf("%v: %v, %t, %v, want %v, %t, %v", p.path, x, ok, err, want.message, want.ok, want.chain)
	}
	p.compare(t)
	if want.chain == nil {
		return api.OK
	}
	return want.chain[0].Code
}

func (p *pair) compare(t testing.TB) {
	t.Helper()
	if got, want := look(t, p.b), p.m.view(); !got.equal(want) {
		t.Fatalf("%v: %+v, want %+v", p.path, got, want)
	}
}

// Every row of up to four calls of a small set, of an empty box and of one with messages, a cursor and a deadline.
func TestAllShortRows(t *testing.T) {
	calls := []step{
		{call: 'p', x: word("new")}, {call: 'p', wrong: []api.Fault{{Layer: "term", Code: api.ErrTerm}}}, {call: 'n'}, {call: 't'},
		{call: 'w', now: 10, x: num(5)}, {call: 'w', now: 15, x: num(1)}, {call: 'w', now: 12, x: num(0)}, {call: 'w', now: 15, x: word("infinity")}, {call: 'w', now: 20, x: word("foo")}, {call: 'w', now: -1, x: num(5)},
		{call: 'e', now: 14}, {call: 'e', now: 15}, {call: 'e', now: -1},
	}
	begin := [][]step{nil, {{call: 'p', x: num(1)}, {call: 'p', x: num(2)}, {call: 'p', x: num(3)}, {call: 'n'}, {call: 'w', now: 9, x: num(6)}}}
	var walk func(path []step, depth int)
	walk = func(path []step, depth int) {
		if depth == 0 {
			p := couple()
			for _, s := range path {
				p.try(t, s)
			}
			return
		}
		for _, s := range calls {
			walk(append(path[:len(path):len(path)], s), depth-1)
		}
	}
	for _, path := range begin {
		walk(path, 4)
	}
}

// chance makes calls: some arguments are wrong, and times lie near one another, so that deadlines come.
type chance struct {
	*rand.Rand
	terms, wrong      []step
	times, neverTimes []api.Term
}

func luck(seed int64) *chance {
	c := &chance{Rand: rand.New(rand.NewSource(seed)), times: append(append(append(spans(), endless()...), naughts()...), row(2, 9)...), neverTimes: noTimes()}
	for _, x := range append(parts(), kinds()[:14]...) {
		c.terms = append(c.terms, step{call: 'p', x: x})
	}
	for _, w := range wrongTerms() {
		c.wrong = append(c.wrong, step{call: 'p', x: w.Value, wrong: w.Chain})
	}
	return c
}

// clock is a time; one that is none one time of 20.
func (c *chance) clock() int {
	switch c.Intn(20) {
	case 0:
		return noClocks[c.Intn(len(noClocks))]
	case 1:
		return clocks[c.Intn(len(clocks))]
	}
	return c.Intn(30)
}

func (c *chance) time() api.Term {
	if c.Intn(12) == 0 {
		return c.neverTimes[c.Intn(len(c.neverTimes))]
	}
	return c.times[c.Intn(len(c.times))]
}

func (c *chance) step() step {
	switch k := c.Intn(100); {
	case k < 3:
		return c.wrong[c.Intn(len(c.wrong))]
	case k < 30:
		return c.terms[c.Intn(len(c.terms))]
	case k < 35:
		return step{call: 'p', x: num(c.Int63n(1000))}
	case k < 57:
		return step{call: 'n'}
	case k < 68:
		return step{call: 't'}
	case k < 86:
		return step{call: 'w', now: c.clock(), x: c.time()}
	}
	return step{call: 'e', now: c.clock()}
}

// Long rows of calls of chance, of two boxes in turn, that know nothing of one another.
func TestRandomRows(t *testing.T) {
	c := luck(17)
	met := map[api.Errno]int{}
	for range 200 {
		two := [2]*pair{couple(), couple()}
		for range 200 {
			met[two[c.Intn(2)].try(t, c.step())]++
		}
		for _, p := range two {
			p.compare(t)
		}
	}
	for _, code := range []api.Errno{api.OK, api.ErrRange, api.ErrNone, api.ErrDeep, api.ErrTerm, api.ErrTimeout} {
		if met[code] < 20 {
			t.Errorf("errno %d is seldom met: %v", code, met)
		}
	}
}

// Rows of calls of chance of boxes that are nearly full, so that the limit is met again and again.
func TestRandomRowsAtTheLimit(t *testing.T) {
	c := luck(18)
	met := map[api.Errno]int{}
	for range 4 {
		all := row(1, api.MaxMailbox-3)
		p := &pair{b: open(t, 0, all...)}
		for _, x := range all {
			p.m.came = append(p.m.came, letter{value: x})
		}
		for range 100 {
			met[p.try(t, step{call: "ppppnnnt"[c.Intn(8)], x: num(c.Int63n(1000))})]++
		}
	}
	if met[api.ErrMany] < 20 || met[api.OK] < 20 {
		t.Errorf("the limit is seldom met: %v", met)
	}
}

// FuzzCalls takes bytes as a row of calls: three of them are one.
func FuzzCalls(f *testing.F) {
	f.Add([]byte("p\x01\x00p\x02\x00n\x00\x00t\x00\x00n\x00\x00n\x00\x00"))
	f.Add([]byte("w\x0a\x01w\x0c\x02e\x0e\x00e\x0f\x00w\x0a\x30"))
	c := luck(19)
	puts, times := append(c.terms, c.wrong...), append(c.times, c.neverTimes...)
	f.Fuzz(func(t *testing.T, b []byte) {
		p := couple()
		for ; len(b) >= 3; b = b[3:] {
			s := step{call: "pntwe"[b[0]%5], now: int(int8(b[1])), x: times[int(b[2])%len(times)]}
			switch {
			case b[0] == 'p', b[0] == 'n', b[0] == 't', b[0] == 'w', b[0] == 'e':
				s.call = b[0]
			case b[0] > 200:
				s.now <<= 34
			}
			if s.call == 'p' {
				s = puts[int(b[1])%len(puts)]
			}
			p.try(t, s)
		}
	})
}
