package proc_test

import (
	"math/rand"
	"slices"
	"testing"

	"heddle/api"
	"heddle/compile"
	"heddle/luck"
	"heddle/proc"
	"heddle/sample"
)

// pair is a table and its model, and the calls that were done to both.
type pair struct {
	x    *proc.Table
	m    *model
	once once
	path []string
}

func couple(t testing.TB) *pair { return &pair{x: open(t, ""), m: &model{}, once: once{}} }

// fatal tells what was done last.
func (p *pair) fatal(t testing.TB, what string) {
	t.Helper()
	text := ""
	for _, s := range p.path[max(0, len(p.path)-40):] {
		text += s + "\n"
	}
	t.Fatalf("%s%s", text, what)
}

// try does a call to both: they agree on all that is told. What was handed in and what was told is written over then.
func (p *pair) try(t testing.TB, s step) (answer, api.Errno) {
	t.Helper()
	want, chain := p.m.do(s)
	p.path = append(p.path, s.String()+" -> "+want.tell(s.call))
	got, err := handed(t, p.x, s)
	if !got.same(want) || !sample.IsFault(err, chain...) {
		p.fatal(t, "tells "+got.tell(s.call)+" "+errorText(err))
	}
	if text := p.once.broken(p.x, show(got.pid), s.call); text != "" {
		p.fatal(t, text)
	}
	got.scribble(t)
	if chain == nil {
		return want, api.OK
	}
	return want, chain[0].Code
}

func errorText(err error) string {
	if err == nil {
		return ""
	}
	return err.Error()
}

// compare holds all that is to be seen of the table against the model.
func (p *pair) compare(t testing.TB, pids []api.Term) {
	t.Helper()
	if got, want := lookAt(p.x, pids, names), lookAt(p.m, pids, names); got != want {
		p.fatal(t, got+"want "+want)
	}
}

// chance makes calls: most of them are what a table is for, some are wrong.
type chance struct {
	choose luck.Choose
	m      *model
	code   []api.Code
	wrongs []sample.NoTerm
	most   int // so many may live, or thereabouts
}

func pick[T any](c *chance, all ...T) T { return all[c.choose(len(all))] }

func (c *chance) one(in int) bool { return c.choose(in) == 0 }

var names = []string{"a", "b", "c", "ß", "", "undefined", "\xff"}

// chanceOf has the standard program, the talker and one of chance.
func chanceOf(t testing.TB, choose luck.Choose, seed int64, m *model) *chance {
	t.Helper()
	lucky, err := compile.Source(luck.Source(rand.New(rand.NewSource(seed)).Intn, 2+int(seed%3)))
	done(t, "Source", err)
	return &chance{choose: choose, m: m, code: []api.Code{source(t, standard), source(t, talker), lucky}, wrongs: sample.NoTerms(), most: 3 + 3*int(seed%4)}
}

// near are pids of which all is looked at: of all that live, of the last that have ended, of the next one, and of none.
func (c *chance) near() []api.Term {
	all := c.m.Living()
	all = append(all, pidsOf(c.m.ended[max(0, len(c.m.ended)-3):])...)
	return append(all, own(0), own(len(c.m.souls)+1), pid("n@h", 2, 1, 0))
}

// anybody lives, most often.
func (c *chance) anybody() api.Term {
	living := c.m.Living()
	if len(living) == 0 || c.one(12) {
		return pick(c, append(c.near(), pid("n@h", 3, 1, 1), pid("m@h", 3, 1, 0), word("a"), api.Term{}, ref("n@h", 3, 1, 0, 0))...)
	}
	return pick(c, living...)
}

// some is a living process that does that, if there is one.
func (c *chance) some(state api.VMState) api.Term {
	for _, s := range c.m.lives() {
		if s.does(state) && !c.one(3) {
			return s.pid
		}
	}
	return c.anybody()
}

// term is one; or, seldom, a value that is none, or one that is nearly too great.
func (c *chance) term() api.Term {
	switch n := c.choose(20); {
	case n == 0:
		return pick(c, c.wrongs...).Value
	case n == 1 && c.one(8):
		return pick(c, tuple(sample.Ones(4093)...), sample.Chain(254, num(1)), sample.Chain(255, num(1)))
	case n < 8:
		return pick(c, word("kill"), word("normal"), word("normal"), deep(), c.anybody())
	}
	return luck.Term(c.choose, 2)
}

// message is what those that wait wait for, often.
func (c *chance) message() api.Term {
	if c.one(4) {
		return tuple(word("go"), luck.Term(c.choose, 1))
	}
	return c.term()
}

func (c *chance) now() int {
	if c.one(25) {
		return pick(c, -1, c.m.now-1, api.MaxClock+1, 0)
	}
	return c.m.now + c.choose(5)*c.choose(4)
}

func (c *chance) spawn() step {
	s := step{call: "spawn", mod: "m"}
	switch n := c.choose(20); {
	case n < 12:
		s.code, s.fun = c.code[0], pick(c, "spin", "spin", "wait", "wait", "wait", "ask", "asks", "quit", "hidden", "nothing")
		if s.fun == "wait" && !c.one(3) {
			s.args = []api.Term{num(int64(c.choose(8)))}
		}
	case n < 15:
		s.code, s.fun, s.args = c.code[1], pick(c, "f", "g"), []api.Term{c.term()}
	case n < 19:
		s.code, s.mod, s.fun = c.code[2], pick(c, "m", "m", "k"), pick(c, "f", "g", "p")
	default:
		s.code = api.Code{Mods: []api.Mod{{Name: "m", Funs: []api.Fun{{Name: "f", Code: []api.Insn{{Op: pick(c, api.CPop, api.CReturn, api.Op(99))}}}}}}}
	}
	if n := c.choose(30); n < 4 {
		for range n {
			s.args = append(s.args, c.term())
		}
	} else if c.one(60) {
		s.args = sample.Ones(256)
	}
	return s
}

// name is one that somebody has, often.
func (c *chance) name() string {
	for _, s := range c.m.lives() {
		if s.name != "" && c.one(2) {
			return s.name
		}
	}
	return pick(c, names...)
}

// reply is something done with one that is asked.
func (c *chance) reply() step {
	s := step{p: c.some(api.Asked), call: pick(c, "answer", "answer", "fail", "park")}
	if s.call != "park" {
		s.x = c.term()
	}
	if s.call == "fail" {
		s.word = pick(c, "error", "error", "exit", "throw", "none")
	}
	return s
}

// step is one call.
func (c *chance) step() step {
	if len(c.m.lives()) < c.most && c.one(5) {
		return c.spawn()
	}
	if slices.ContainsFunc(c.m.lives(), func(s *soul) bool { return s.does(api.Asked) }) && c.one(3) {
		return c.reply()
	}
	switch n := c.choose(100); {
	case n < 38:
		return step{call: "run", budget: pick(c, 1, 2, 5, 5, 60, 60, 0), now: c.now()}
	case n < 48:
		return step{call: "wake", now: c.now()}
	case n < 53:
		return step{call: "turn"}
	case n < 56:
		return c.reply()
	case n < 76:
		return step{call: "put", p: pick(c, c.anybody(), c.some(api.Waiting)), x: c.message()}
	case n < 83:
		return step{call: "exit", p: c.anybody(), from: c.anybody(), x: c.term(), yes: c.one(2)}
	case n < 89:
		return step{call: "trap", p: c.anybody(), yes: c.one(2)}
	case n < 96:
		return step{call: "register", p: c.anybody(), word: pick(c, names...)}
	}
	return step{call: "unregister", word: c.name()}
}

// tally is how often what was met.
type tally struct {
	calls  map[string]int
	codes  map[api.Errno]int
	events map[api.EventKind]int
	exits  map[api.ExitKind]int
}

func newTally() tally {
	return tally{map[string]int{}, map[api.Errno]int{}, map[api.EventKind]int{}, map[api.ExitKind]int{}}
}

func (y tally) count(s step, a answer, code api.Errno) {
	y.codes[code]++
	if code != api.OK {
		return
	}
	y.calls[s.call]++
	if a.n > 0 {
		y.calls["woken"]++
	}
	if s.call == "put" && a.yes {
		y.calls["got"]++
	}
	if s.call == "run" {
		y.events[a.event.Kind]++
	}
	if s.call == "exit" {
		y.exits[a.exit]++
	}
}

func (y tally) enough(t *testing.T) {
	t.Helper()
	for _, call := range []string{"spawn", "wake", "run", "turn", "park", "answer", "fail", "put", "exit", "trap", "register", "unregister", "woken", "got"} {
		if y.calls[call] < 100 {
			t.Errorf("%s is seldom done: %v", call, y.calls)
		}
	}
	for _, code := range []api.Errno{api.OK, api.ErrArg, api.ErrRange, api.ErrNone, api.ErrProc, api.ErrNamed, api.ErrAsked, api.ErrTerm, api.ErrFlow, api.ErrCode, api.ErrArity, api.ErrDeep, api.ErrMany} {
		if y.codes[code] < 10 {
			t.Errorf("errno %d is seldom met: %v", code, y.codes)
		}
	}
	for _, kind := range []api.EventKind{api.EvYield, api.EvWait, api.EvAct, api.EvEnd} {
		if y.events[kind] < 500 {
			t.Errorf("events: %v", y.events)
		}
	}
	for _, kind := range []api.ExitKind{api.ExitNone, api.ExitMessage, api.ExitEnded} {
		if y.exits[kind] < 50 {
			t.Errorf("exits: %v", y.exits)
		}
	}
}

// Acts of chance, of two tables in turn, that know nothing of one another (rule 5).
func TestChance(t *testing.T) {
	met := newTally()
	for seed := range int64(60) {
		r := rand.New(rand.NewSource(seed))
		two := [2]*pair{couple(t), couple(t)}
		lucks := [2]*chance{chanceOf(t, r.Intn, seed, two[0].m), chanceOf(t, r.Intn, seed+1000, two[1].m)}
		for range 600 {
			i := r.Intn(2)
			s := lucks[i].step()
			a, code := two[i].try(t, s)
			met.count(s, a, code)
			two[i].compare(t, lucks[i].near())
		}
		for i, p := range two {
			p.compare(t, lucks[i].near())
			p.finish(t)
		}
	}
	met.enough(t)
}

// finish lets all go on to their ends: that tells of what else is not to be seen.
func (p *pair) finish(t testing.TB) {
	t.Helper()
	p.try(t, step{call: "wake", now: api.MaxClock})
	for range 100 {
		a, code := p.try(t, step{call: "run", budget: 20, now: api.MaxClock})
		if code == api.ErrAsked {
			p.try(t, step{call: "turn"})
		}
		if code == api.ErrNone || a.event.Kind == api.EvYield && len(p.m.queue()) == 1 {
			break
		}
	}
	p.compare(t, p.m.Living())
	for _, q := range p.m.Living() {
		p.try(t, step{call: "exit", p: q, from: q, x: word("kill")})
	}
	p.compare(t, nil)
}

// FuzzCalls takes bytes as choices of calls.
func FuzzCalls(f *testing.F) {
	f.Add(int64(1), []byte("heddle processes"))
	for seed := range int64(10) {
		b := make([]byte, 200)
		rand.New(rand.NewSource(seed)).Read(b)
		f.Add(seed, b)
	}
	f.Fuzz(func(t *testing.T, seed int64, b []byte) {
		choices := luck.Bytes(b[:min(len(b), 1000)]) // more of them take long, and tell no more
		p := couple(t)
		c := chanceOf(t, choices.Choose, seed&1023, p.m)
		for range 3 {
			p.try(t, step{call: "spawn", code: c.code[0], mod: "m", fun: "wait", args: []api.Term{num(5)}})
		}
		for len(choices) > 0 {
			p.try(t, c.step())
			p.compare(t, c.near())
		}
		p.finish(t)
	})
}
