package link_test

import (
	"fmt"
	"math/rand"
	"slices"
	"testing"

	"heddle/api"
	"heddle/link"
	"heddle/luck"
	"heddle/sample"
	"heddle/term"
)

// pair is a table and its model, and the calls that were done to both.
type pair struct {
	x    *link.Table
	m    *model
	path []string
}

func couple(t testing.TB) *pair { return &pair{x: open(t), m: newModel("a@h", 1)} }

// fields are the places of all terms that a call is given.
func (s *step) fields() []*api.Term {
	all := []*api.Term{&s.p, &s.q, &s.ref, &s.sig.From, &s.sig.To, &s.sig.Ref, &s.sig.Reason, &s.sig.Msg}
	for i := range s.sig.Args {
		all = append(all, &s.sig.Args[i])
	}
	return all
}

// roomy is the same call with terms in memory of their own.
func (s step) roomy() (step, []api.Term) {
	s.sig.Args = slices.Clone(s.sig.Args)
	var terms []api.Term
	for _, f := range s.fields() {
		terms = append(terms, *f)
	}
	terms = sample.Roomy(terms)
	for i, f := range s.fields() {
		*f = terms[i]
	}
	return s, terms
}

// try does a call to both: they agree on all that is told. What is handed in is not changed by it; then that, and all that was told, is written over.
func (p *pair) try(t testing.TB, s step) api.Errno {
	t.Helper()
	p.path = append(p.path, s.String())
	given, terms := s.roomy()
	var were []api.Term
	for _, x := range terms {
		were = append(were, term.Copy(x))
	}
	want, chain := p.m.do(s)
	effects, err := given.perform(p.x)
	if !slices.EqualFunc(effects, want, sameEffect) || !sample.IsFault(err, chain...) {
		t.Fatalf("%s\ntells %s, %v\nwant %s, %v", p.last(), showEffects(effects), err, showEffects(want), chain)
	}
	if !sample.Untouched(terms, were) {
		t.Fatalf("%s\nchanges what it is given", p.last())
	}
	scribble(terms)
	apart(t, effects)
	if chain == nil {
		return api.OK
	}
	return chain[0].Code
}

// last is what a test tells of a path.
func (p *pair) last() string {
	text := ""
	for _, s := range p.path[max(0, len(p.path)-30):] {
		text += s + "\n"
	}
	return text
}

// compare holds all that is to be seen of the table against the model.
func (p *pair) compare(t testing.TB, pids []api.Term) {
	t.Helper()
	for _, q := range pids {
		if p.x.Alive(q) != p.m.lives(q) {
			t.Fatalf("%s\nAlive(%s) is %t", p.last(), show(q), p.x.Alive(q))
		}
		for i, want := range p.m.told(q) {
			got := []func(api.Term) []api.Term{p.x.Links, p.x.Monitors, p.x.Watchers}[i](q)
			if !slices.EqualFunc(got, want, sample.Same) {
				t.Fatalf("%s\n%s: %s of %s, want %s", p.last(), []string{"links", "monitors", "watchers"}[i], showAll(got), show(q), showAll(want))
			}
			scribble(got)
		}
	}
	for _, node := range []string{"a@h", "b@h", "c@h", "d@h"} {
		if got, want := p.x.Halves(node), p.m.halves(node); got != want {
			t.Fatalf("%s\nHalves(%s) = %d, want %d", p.last(), node, got, want)
		}
	}
}

// chance makes calls. Pids of this node come from a window that moves up behind the ended ones.
type chance struct {
	choose func(n int) int
	low    uint32
	wrong  int // one argument of so many is wrong
}

func chanceOf(r *rand.Rand) *chance { return &chance{choose: r.Intn, low: 1, wrong: 40} }

const window = 5

// near are the pids of the window, and some of others.
func (c *chance) near() []api.Term {
	all := []api.Term{val("a1/2"), val("b1"), val("c1")}
	for i := range uint32(window) {
		all = append(all, pid("a@h", 1, c.low+i, 0))
	}
	return append(all, val("a1.1"))
}

// move moves the window up, past who has ended.
func (c *chance) move(m *model) {
	for has(m.lived, pid("a@h", 1, c.low, 0)) && !m.lives(pid("a@h", 1, c.low, 0)) && len(m.living) < 3 {
		c.low++
	}
}

func pick[T any](c *chance, all ...T) T { return all[c.choose(len(all))] }

// spoilt is a term, or now and then a value that is none, or another one.
func (c *chance) spoilt(x api.Term) api.Term {
	if c.wrong == 0 || c.choose(c.wrong) > 0 {
		return x
	}
	y := term.Copy(x)
	switch c.choose(5) {
	case 0:
		y.Nums = append(y.Nums, 0)
	case 1:
		y.Int = 1
	case 2:
		y.Kind = api.Kind(c.choose(9))
	case 3:
		y = pick(c, otherTerms()...)
	default:
		y = api.Term{}
	}
	return y
}

func (c *chance) text(s string) string {
	if c.wrong == 0 || c.choose(c.wrong) > 0 {
		return s
	}
	return pick(c, "", "h", "\xff", "a@h")
}

// here is a pid of this node, most often; there one of another one.
func (c *chance) here() api.Term {
	switch c.choose(40) {
	case 0:
		return pid("a@h", 2, c.low, 0)
	case 1:
		return val("a1.1")
	}
	return pid("a@h", 1, c.low+uint32(c.choose(window)), 0)
}

func (c *chance) there(node string) api.Term {
	return pid(node, uint32(1+c.choose(8)/7), uint32(1+c.choose(2)), 0)
}

func (c *chance) node() string { return pick(c, "b@h", "b@h", "c@h") }

func (c *chance) anybody() api.Term {
	if c.choose(2) == 0 {
		return c.here()
	}
	return c.there(c.node())
}

func (c *chance) ref() api.Term { return pick(c, val("a#1"), val("a#2"), val("a#3"), val("b#1")) }

func (c *chance) reason() api.Term {
	return pick(c, word("boom"), word("noproc"), val("{a,[1,b|c]}"), val("b7"), val("[#Ref<a@h.1.1.0.0>,<b@h.1.7.0>]"))
}

// named is who has a name, if one has.
func (c *chance) named() api.Term {
	if c.choose(3) == 0 {
		return api.Term{}
	}
	return pick(c, c.here(), c.here(), c.here(), c.anybody())
}

func (c *chance) step() step {
	s := step{p: c.spoilt(c.here())}
	switch n := c.choose(100); {
	case n < 12:
		s.call = "born"
	case n < 26:
		s.call, s.q = "link", c.spoilt(c.anybody())
	case n < 33:
		s.call, s.q = "unlink", c.spoilt(c.anybody())
	case n < 43:
		s.call, s.ref, s.q = "monitor", c.spoilt(c.ref()), c.spoilt(c.anybody())
	case n < 49:
		s.call, s.ref, s.q = "monitor", c.spoilt(c.ref()), c.spoilt(c.named())
		s.name, s.node = c.text(pick(c, "x", "y")), c.text(pick(c, "a@h", c.node()))
	case n < 54:
		s.call, s.ref = "demonitor", c.spoilt(c.ref())
	case n < 57:
		s.call, s.q = "end", c.spoilt(c.reason())
	case n < 98:
		s = c.take()
	default:
		s = step{call: "down", node: c.text(c.node())}
	}
	return s
}

func (c *chance) take() step {
	s := step{call: "take", node: c.text(c.node()), q: c.spoilt(c.named())}
	g := api.Sig{Kind: pick(c, takenKinds...), From: c.there(s.node), To: c.here(), ID: uint32(1 + c.choose(4))}
	if c.choose(30) == 0 {
		g = whole(pick(c, api.GSend, api.GRegSend, api.GExit2, api.GSpawn, api.GSpawnReply, 0, 40))
	}
	switch g.Kind {
	case api.GMonitor, api.GDemonitor:
		g.Ref = c.ref()
		if c.choose(2) == 0 {
			g.To, g.Name = api.Term{}, pick(c, "x", "y", "")
		}
	case api.GMonitorExit:
		g.Ref, g.Reason = c.ref(), c.reason()
		if c.choose(2) == 0 {
			g.From, g.Name = api.Term{}, pick(c, "x", "y", "")
		}
	case api.GExit:
		g.Reason = c.reason()
	}
	if c.choose(30) == 0 {
		g.From = c.anybody()
	}
	for _, f := range []*api.Term{&g.From, &g.To, &g.Ref, &g.Reason} {
		*f = c.spoilt(*f)
	}
	s.sig = g
	return s
}

// Acts of chance, of two tables in turn, that know nothing of one another.
func TestChance(t *testing.T) {
	met, told := map[api.Errno]int{}, map[string]int{}
	for seed := range int64(150) {
		r := rand.New(rand.NewSource(seed))
		two := [2]*pair{couple(t), couple(t)}
		lucks := [2]*chance{chanceOf(r), chanceOf(r)}
		for range 500 {
			i := r.Intn(2)
			p, c := two[i], lucks[i]
			s := c.step()
			code := p.try(t, s)
			met[code]++
			if code == api.OK {
				told[s.call]++
			}
			p.compare(t, c.near())
			c.move(p.m)
		}
		for i, p := range two {
			p.compare(t, lucks[i].near())
			p.finish(t, r.Intn)
		}
	}
	for _, code := range []api.Errno{api.OK, api.ErrArg, api.ErrTrace, api.ErrTwice} {
		if met[code] < 100 {
			t.Errorf("errno %d is seldom met: %v", code, met)
		}
	}
	for _, call := range []string{"born", "link", "unlink", "monitor", "demonitor", "end", "take", "down"} {
		if told[call] < 500 {
			t.Errorf("%s is seldom done: %v", call, told)
		}
	}
}

// finish ends all processes, or the connections ahead of them: that tells of what else is not to be seen.
func (p *pair) finish(t testing.TB, choose func(n int) int) {
	t.Helper()
	if choose(3) == 0 {
		p.try(t, step{call: "down", node: "b@h"})
	}
	for len(p.m.living) > 0 {
		p.try(t, step{call: "end", p: p.m.living[choose(len(p.m.living))], q: word("finish")})
	}
	p.compare(t, nil)
}

// P19.11, P19.12: what is told of a link or a monitor is its end: it was there, and is there no more; behind Down nothing of the node is left.
func TestOnce(t *testing.T) {
	met := map[string]int{}
	for seed := range int64(150) {
		r := rand.New(rand.NewSource(seed))
		x, m, c := open(t), newModel("a@h", 1), chanceOf(r)
		for range 400 {
			s := c.step()
			m.do(s) // for the window alone
			before := snapshot(x, c.near())
			effects, _ := s.perform(x)
			after := snapshot(x, c.near())
			seen := map[string]bool{}
			for _, e := range effects {
				key := ""
				switch e.Kind {
				case api.FExit:
					key = "link " + show(e.To) + " " + show(e.From)
					if s.call == "link" && sample.Same(e.To, s.p) && sample.Same(e.From, s.q) {
						before[key] = true
					}
				case api.FDown:
					key = "monitor " + show(e.To) + " " + show(e.Ref)
					if s.call == "monitor" && sample.Same(e.To, s.p) && sample.Same(e.Ref, s.ref) && !before[key] {
						before[key] = true
					}
				default:
					continue
				}
				if !before[key] || after[key] || seen[key] {
					t.Fatalf("%v: %s: ahead %t, behind %t, twice %t", s, showEffect(e), before[key], after[key], seen[key])
				}
				seen[key] = true
				met[s.call]++
			}
			if n := x.Halves(s.node); s.call == "down" && n != 0 {
				t.Fatalf("%v: Halves is %d", s, n)
			}
			c.move(m)
		}
	}
	for _, call := range []string{"link", "monitor", "end", "take", "down"} {
		if met[call] < 100 {
			t.Errorf("an end by %s is seldom told: %v", call, met)
		}
	}
}

// snapshot is which links and monitors there are.
func snapshot(x *link.Table, pids []api.Term) map[string]bool {
	all := map[string]bool{}
	for _, p := range pids {
		for _, q := range x.Links(p) {
			all[fmt.Sprintf("link %s %s", show(p), show(q))] = true
		}
		for _, r := range x.Monitors(p) {
			all[fmt.Sprintf("monitor %s %s", show(p), show(r))] = true
		}
	}
	return all
}

// FuzzCalls takes bytes as choices of calls.
func FuzzCalls(f *testing.F) {
	f.Add([]byte("heddle links and monitors"))
	f.Add([]byte{3, 0, 0, 3, 1, 0, 20, 0, 0, 1, 1, 0, 99, 50, 30})
	f.Fuzz(func(t *testing.T, b []byte) {
		choices := luck.Bytes(b[:min(len(b), 2000)]) // more of them take long, and tell no more
		p, c := couple(t), &chance{choose: choices.Choose, low: 1, wrong: 30}
		for _, q := range c.near() {
			p.try(t, step{call: "born", p: q})
		}
		for len(choices) > 0 {
			p.try(t, c.step())
			p.compare(t, c.near())
			c.move(p.m)
		}
		p.finish(t, func(int) int { return 0 })
	})
}
