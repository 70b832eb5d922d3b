package compile_test

import (
	"math/rand"
	"strconv"
	"strings"
	"testing"

	"heddle/api"
	"heddle/luck"
	"heddle/term"
)

// outside is all that a process is given: messages, the clock, answers; and all that is seen of it.
type outside struct {
	plan
	box     box
	clock   int
	counted int
	most    int // so many are counted, or a few more
	seen    []string
	since   int // what was counted when the last event was seen
	deepest int // how many frames were seen at most
}

// plan says what comes when.
type plan interface {
	atCount(o *outside)
	atAct(o *outside) (class string, t api.Term) // no class: an answer
	atWait(o *outside) bool                      // false: nothing comes any more
}

// over ends a process of which no more is to be seen.
type over struct{}

// watch is what is to be seen of a process, an event behind the other.
func watch(o *outside, run func(o *outside) api.Term) (events string) {
	defer func() {
		if r := recover(); r != nil && r != any(over{}) {
			panic(r)
		}
		events = strings.Join(o.seen, "; ")
	}()
	o.tell("end " + show(run(o)))
	return ""
}

func (o *outside) tell(event string) {
	o.seen = append(o.seen, event+" "+strconv.Itoa(o.counted))
	o.since = o.counted
}

// count is called ahead of each that is counted. The first one behind an event follows at once, as in a slice of a process.
func (o *outside) count() {
	if o.counted > o.since {
		o.pause()
	}
	o.counted++
}

// pause is ahead of what is counted.
func (o *outside) pause() {
	if o.counted >= o.most {
		o.tell("enough")
		panic(over{})
	}
	o.atCount(o)
}

// act asks for an answer; what a process knows itself is answered at once.
func (o *outside) act(name string, args []api.Term) (class string, t api.Term) {
	switch {
	case name == "self" && len(args) == 0:
		return "", who().Self
	case name == "node" && len(args) == 0:
		return "", word(who().Node)
	}
	var texts []string
	for _, x := range args {
		texts = append(texts, show(x))
	}
	o.tell(name + "(" + strings.Join(texts, ",") + ")")
	return o.atAct(o)
}

// wait is seen each time when nothing has come for which a process waits.
func (o *outside) wait() {
	event := "wait"
	if o.box.timed {
		event += " till " + strconv.Itoa(o.box.deadline)
	}
	o.tell(event)
	if !o.atWait(o) {
		o.tell("over")
		panic(over{})
	}
}

// box is a mailbox, as chapter 17 says.
type box struct {
	all      []api.Term
	cursor   int
	timed    bool
	deadline int
}

func (b *box) put(t api.Term) { b.all = append(b.all, t) }

func (b *box) peek() (api.Term, bool) {
	if b.cursor < len(b.all) {
		return b.all[b.cursor], true
	}
	return api.Term{}, false
}

func (b *box) take() {
	if b.cursor < len(b.all) {
		b.all = append(append([]api.Term{}, b.all[:b.cursor]...), b.all[b.cursor+1:]...)
	}
	b.begin()
}

func (b *box) begin() { b.cursor, b.timed = 0, false }

// expire: has the deadline come?
func (b *box) expire(now int) bool {
	if !b.timed || b.deadline > now {
		return false
	}
	b.begin()
	return true
}

// wait tells whether a process waits; not right: that is no time.
func (b *box) wait(now int, t api.Term) (waits, right bool) {
	forever := t.Kind == api.KAtom && t.Text == "infinity"
	if !forever && (t.Kind != api.KInt || t.Int < 0 || t.Int > api.MaxClock) {
		return false, false
	}
	if t.Kind == api.KInt && t.Int == 0 {
		b.begin()
		return false, true
	}
	if b.expire(now) {
		return false, true
	}
	if !b.timed && !forever {
		b.timed, b.deadline = true, now+int(t.Int)
	}
	return true, true
}

// raised is what a process raises, where nothing has taken it yet.
type raised struct {
	class  string
	reason api.Term
}

// end is the reason with which a process ends that nobody caught.
func (r raised) end() api.Term {
	if r.class == "throw" {
		return orLimit(tuple(word("nocatch"), r.reason))
	}
	return r.reason
}

// orLimit is a reason, if it is a term.
func orLimit(t api.Term) api.Term {
	if term.Check(t) != nil {
		return word("system_limit")
	}
	return t
}

// script is a plan by texts, one for each event, with blanks between: +T is a message, @N the clock, =T an answer, error:T, exit:T and throw:T are raised. Acts that it says nothing of are answered with ok.
type script struct {
	t     testing.TB
	given []string
}

func (s *script) atCount(*outside) {}

func (s *script) next(o *outside) (class string, answer api.Term, more bool) {
	answer = word("ok")
	if len(s.given) == 0 {
		return "", answer, false
	}
	for _, text := range strings.Fields(s.given[0]) {
		kind, rest, found := strings.Cut(text, ":")
		if !found || strings.ContainsAny(kind[:1], "+@=") {
			kind, rest = text[:1], text[1:]
		}
		switch kind {
		case "+":
			o.box.put(read(s.t, rest))
		case "@":
			o.clock, _ = strconv.Atoi(rest)
		case "=":
			answer = read(s.t, rest)
		default:
			class, answer = kind, read(s.t, rest)
		}
	}
	s.given = s.given[1:]
	return class, answer, true
}

func (s *script) atAct(o *outside) (string, api.Term) {
	class, answer, _ := s.next(o)
	return class, answer
}

func (s *script) atWait(o *outside) bool {
	_, _, more := s.next(o)
	return more
}

// byChance is a plan by chance, the same for all processes of a seed that do the same.
type byChance struct {
	r     *rand.Rand
	waits int
}

func byLuck(seed int64) *outside {
	o := &outside{plan: &byChance{rand.New(rand.NewSource(seed)), 0}, most: 120}
	o.clock = int(seed % 3)
	o.atWait(o)
	return o
}

func (l *byChance) some(o *outside) {
	if l.r.Intn(3) == 0 {
		o.box.put(luck.Term(l.r.Intn, 2))
	}
	if l.r.Intn(3) == 0 {
		o.clock += l.r.Intn(4)
	}
}

func (l *byChance) atCount(o *outside) {
	if l.r.Intn(4) == 0 {
		l.some(o)
	}
}

func (l *byChance) atAct(o *outside) (string, api.Term) {
	l.some(o)
	class := ""
	if l.r.Intn(5) == 0 {
		class = [...]string{"error", "exit", "throw"}[l.r.Intn(3)]
	}
	return class, luck.Term(l.r.Intn, 2)
}

func (l *byChance) atWait(o *outside) bool {
	l.some(o)
	l.some(o)
	if o.box.timed && l.r.Intn(3) == 0 {
		o.clock = max(o.clock, o.box.deadline)
	}
	l.waits++
	return l.waits < 12
}
