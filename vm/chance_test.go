package vm_test

import (
	"fmt"
	"math/rand"
	"strings"
	"testing"

	"heddle/api"
	"heddle/code"
	"heddle/compile"
	"heddle/luck"
	"heddle/sample"
	"heddle/vm"
)

// couple is a process and its model, and what was done to both.
type couple struct {
	v    *vm.VM
	m    *model
	c    api.Code
	path []string
}

func coupleOf(t testing.TB, c api.Code, mod, fun string, args []api.Term) *couple {
	t.Helper()
	v, err := vm.New(c, mod, fun, args, who())
	done(t, "New", err)
	p := &couple{v, modelOf(c, mod, fun, args, who()), c, []string{mod + ":" + fun + "(" + showAll(args) + ")"}}
	p.agree(t)
	return p
}

// fatal tells all that was done.
func (p *couple) fatal(t testing.TB, what string) {
	t.Helper()
	image, _ := code.Print(p.c)
	if len(image) > 6000 {
		image = image[:6000] + ".."
	}
	t.Fatalf("%s\n%s\n%s", image, strings.Join(p.path, "; "), what)
}

// agree: the same is to be seen of both. What was told is written over then.
func (p *couple) agree(t testing.TB) {
	t.Helper()
	got, want := look(t, p.v), p.m.view()
	if !got.same(want) {
		p.fatal(t, fmt.Sprintf("%v, want %v", got, want))
	}
	scribble(got.messages)
}

// hand hands a term in, and writes over it then.
func (p *couple) hand(t testing.TB, x api.Term, in func(x api.Term) error) error {
	t.Helper()
	given := sample.Roomy([]api.Term{x})
	err := in(given[0])
	if !sample.Untouched(given, []api.Term{x}) {
		p.fatal(t, "what is handed in is changed")
	}
	scribble(given)
	return err
}

// refuses: with the same chain of faults, or neither is refused.
func (p *couple) refuses(t testing.TB, err error, chain []api.Fault) api.Errno {
	t.Helper()
	if !sample.IsFault(err, chain...) {
		p.fatal(t, fmt.Sprintf("%v, want %v", err, chain))
	}
	p.agree(t)
	if chain == nil {
		return api.OK
	}
	return chain[0].Code
}

func (p *couple) run(t testing.TB, budget, now int) (api.EventKind, api.Errno) {
	t.Helper()
	want, chain := p.m.run(budget, now)
	got, err := p.v.Run(budget, now)
	p.path = append(p.path, fmt.Sprintf("run %d %d: %s", budget, now, tell(want)))
	if !sample.SameEvent(got, want) {
		p.fatal(t, "the event is "+tell(got))
	}
	scribble(got.Args)
	sample.Scribble(got.Reason)
	return got.Kind, p.refuses(t, err, chain)
}

func (p *couple) answer(t testing.TB, class string, x api.Term) api.Errno {
	t.Helper()
	p.path = append(p.path, class+" "+show(x))
	chain := p.m.answer(class, x)
	return p.refuses(t, p.hand(t, x, func(x api.Term) error {
		if class == "resume" {
			return p.v.Resume(x)
		}
		return p.v.Raise(class, x)
	}), chain)
}

func (p *couple) put(t testing.TB, x api.Term) api.Errno {
	t.Helper()
	p.path = append(p.path, "put "+show(x))
	return p.refuses(t, p.hand(t, x, p.v.Put), p.m.put(x))
}

// chance makes calls: most of them are what a process is for, some are wrong.
type chance struct {
	choose luck.Choose
	wrongs []sample.NoTerm
	now    int
	events map[api.EventKind]int
	codes  map[api.Errno]int
}

func chanceOf(choose luck.Choose) *chance {
	return &chance{choose: choose, wrongs: sample.NoTerms(), events: map[api.EventKind]int{}, codes: map[api.Errno]int{}}
}

func (c *chance) one(in int) bool { return c.choose(in) == 0 }

// term is one; or, seldom, a value that is none.
func (c *chance) term() api.Term {
	if c.one(8) {
		return c.wrongs[c.choose(len(c.wrongs))].Value
	}
	if c.one(6) {
		return []api.Term{who().Self, sample.Ref("m@h", 1, 1, 2, 3), num(api.MaxClock), num(api.MaxInt)}[c.choose(4)]
	}
	if c.one(200) {
		return []api.Term{tuple(sample.Ones(4094)...), sample.Chain(254, num(1))}[c.choose(2)]
	}
	return luck.Term(c.choose, 2)
}

func (c *chance) class() string {
	return []string{"resume", "resume", "resume", "resume", "error", "exit", "throw", "none", ""}[c.choose(9)]
}

// step is one call.
func (c *chance) step(t testing.TB, p *couple) {
	t.Helper()
	switch n := c.choose(20); {
	case n < 4:
		c.codes[p.put(t, c.term())]++
	case p.m.state == api.Asked && n < 17, n == 4:
		c.codes[p.answer(t, c.class(), c.term())]++
	case n == 5 && c.one(2):
		budget := []int{0, -1, api.MaxBudget + 1}[c.choose(3)]
		_, code := p.run(t, budget, c.now)
		c.codes[code]++
	case n == 6 && c.one(2):
		_, code := p.run(t, 1, []int{-1, c.now - 1, api.MaxClock + 1}[c.choose(3)])
		c.codes[code]++
	default:
		c.pass()
		kind, code := p.run(t, 1+c.choose([]int{1, 2, 5, 60}[c.choose(4)]), c.now)
		c.events[kind]++
		c.codes[code]++
	}
}

// pass lets some time pass.
func (c *chance) pass() {
	if c.one(3) {
		c.now += c.choose(5)
	}
}

// follow does calls of chance to a process till it has ended and some more, or so many.
func (c *chance) follow(t testing.TB, p *couple, most int) {
	t.Helper()
	c.now = 0
	for over := 0; most > 0 && over < 5; most-- {
		c.step(t, p)
		if p.m.state == api.Ended {
			over++
		}
	}
}

// enough: all kinds of events, all that may be refused, all instructions were met.
func (c *chance) enough(t *testing.T, met map[api.Op]int) {
	t.Helper()
	for _, kind := range []api.EventKind{api.EvYield, api.EvWait, api.EvAct, api.EvEnd} {
		if c.events[kind] < 100 {
			t.Errorf("events: %v", c.events)
		}
	}
	for _, code := range []api.Errno{api.OK, api.ErrArg, api.ErrRange, api.ErrEnd, api.ErrAsked, api.ErrTerm, api.ErrDeep, api.ErrMany} {
		if c.codes[code] < 10 {
			t.Errorf("codes: %v", c.codes)
		}
	}
	for op := api.CConst; op <= api.CWait; op++ {
		if met[op] < 5 {
			t.Errorf("Op %d was done %d times", op, met[op])
		}
	}
}

// some is a process of a program of chance that calls one of its functions, of which some are not there.
func (c *chance) some(t testing.TB, program api.Code) *couple {
	t.Helper()
	var args []api.Term
	for range c.choose(3) {
		args = append(args, luck.Term(c.choose, 2))
	}
	fun := []string{"f", "f", "f", "g", "h"}[c.choose(5)]
	if len(args) == 0 && c.one(2) {
		fun = "g"
	}
	return coupleOf(t, program, []string{"m", "m", "m", "k"}[c.choose(4)], fun, args)
}

// hold follows processes of many programs, and asks for enough.
func (c *chance) hold(t *testing.T, programs int, program func(seed int64) api.Code) {
	t.Helper()
	met := map[api.Op]int{}
	for seed := range int64(programs) {
		code := program(seed)
		for range 5 {
			p := c.some(t, code)
			c.follow(t, p, 60)
			for op, n := range p.m.met {
				met[op] += n
			}
		}
	}
	c.enough(t, met)
}

// compiled is the code of a text of chance.
func compiled(t testing.TB, seed int64) api.Code {
	t.Helper()
	c, err := compile.Source(luck.Source(rand.New(rand.NewSource(seed)).Intn, 2+int(seed%3)))
	done(t, "Source", err)
	return c
}

// P18.1 to P18.4: programs that are made by hand, by chance, with calls of chance, do what the chapter told once more does.
func TestHandMade(t *testing.T) {
	chanceOf(rand.New(rand.NewSource(18)).Intn).hold(t, 1000, func(seed int64) api.Code { return someCode(t, rand.New(rand.NewSource(seed))) })
}

// P18.1 to P18.4: so do programs that are compiled.
func TestCompiled(t *testing.T) {
	chanceOf(rand.New(rand.NewSource(19)).Intn).hold(t, 500, func(seed int64) api.Code { return compiled(t, seed) })
}

// FuzzCalls: numbers make a program by hand, bytes say what is called.
func FuzzCalls(f *testing.F) {
	for seed := range int64(20) {
		b := make([]byte, 60)
		rand.New(rand.NewSource(seed)).Read(b)
		f.Add(seed, b)
	}
	f.Fuzz(func(t *testing.T, seed int64, b []byte) {
		choices := luck.Bytes(b)
		p := coupleOf(t, someCode(t, rand.New(rand.NewSource(seed))), "m", "f", nil)
		c := chanceOf(choices.Choose)
		for len(choices) > 0 && len(p.path) < 200 {
			c.step(t, p)
		}
	})
}
