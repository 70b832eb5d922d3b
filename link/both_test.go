package link_test

import (
	"fmt"
	"math/rand"
	"slices"
	"testing"

	"heddle/api"
	"heddle/link"
	"heddle/sample"
)

// net is some tables that tell each other all. Who has a name has it from birth on: NAME is x and the id.
type net struct {
	t        *testing.T
	r        *rand.Rand
	tables   map[string]*link.Table
	creation map[string]uint32
	born     map[string][]api.Term       // of all incarnations
	queues   map[[2]string][]api.Sig     // from, to
	watches  map[string]map[string]watch // by node, by process and ref
	refs     uint32
	log      []string
	told     func(effects []api.Effect) // is asked of all that tables tell
}

// watch is a monitor that was asked for.
type watch struct {
	p, ref, whom api.Term
}

var netNodes = []string{"a@h", "b@h", "c@h"}

func newNet(t *testing.T, seed int64) *net {
	n := &net{t: t, r: rand.New(rand.NewSource(seed)), tables: map[string]*link.Table{}, creation: map[string]uint32{}, born: map[string][]api.Term{}, queues: map[[2]string][]api.Sig{}, watches: map[string]map[string]watch{}}
	for _, node := range netNodes {
		n.start(node)
	}
	return n
}

// start is an incarnation, with two processes.
func (n *net) start(node string) {
	n.creation[node]++
	x, err := link.New(node, n.creation[node])
	done(n.t, "New", err)
	n.tables[node], n.watches[node] = x, map[string]watch{}
	n.birth(node)
	n.birth(node)
}

func (n *net) birth(node string) {
	p := pid(node, n.creation[node], uint32(len(n.born[node])+1), 0)
	done(n.t, "Born", n.tables[node].Born(p))
	n.born[node] = append(n.born[node], p)
}

func (n *net) node() string { return netNodes[n.r.Intn(len(netNodes))] }

// process is one of a node, more often one of the last that were born.
func (n *net) process(node string) api.Term {
	all := n.born[node]
	if n.r.Intn(8) > 0 {
		all = all[max(0, len(all)-4):]
	}
	return all[n.r.Intn(len(all))]
}

// living is a living one; none, if there is none.
func (n *net) living(node string) (api.Term, bool) {
	var all []api.Term
	for _, p := range n.born[node] {
		if n.tables[node].Alive(p) {
			all = append(all, p)
		}
	}
	if len(all) == 0 {
		return api.Term{}, false
	}
	return all[n.r.Intn(len(all))], true
}

func nameOf(p api.Term) string { return fmt.Sprintf("x%d", p.Nums[0]) }

// named is who has a name: who has ended has it no more, and is told at times all the same.
func (n *net) named(node, name string) api.Term {
	for _, p := range n.born[node] {
		if nameOf(p) == name && (n.tables[node].Alive(p) || n.r.Intn(2) == 0) {
			return p
		}
	}
	return api.Term{}
}

// do does a call of a node, and sends what it tells.
func (n *net) do(node string, s step) []api.Effect {
	n.t.Helper()
	effects, err := s.perform(n.tables[node])
	n.log = append(n.log, fmt.Sprintf("%s: %v -> %s", node, s, showEffects(effects)))
	if err != nil {
		n.fail("%v", err)
	}
	if n.told != nil {
		n.told(effects)
	}
	for _, e := range effects {
		if e.Kind == api.FSignal {
			if e.Node == node {
				n.fail("a signal to oneself")
			}
			key := [2]string{node, e.Node}
			n.queues[key] = append(n.queues[key], e.Sig)
		}
	}
	return effects
}

func (n *net) fail(format string, args ...any) {
	n.t.Helper()
	text := ""
	for _, line := range n.log[max(0, len(n.log)-60):] {
		text += line + "\n"
	}
	n.t.Fatalf("%s%s", text, fmt.Sprintf(format, args...))
}

// deliver takes the first signal of a queue.
func (n *net) deliver(from, to string) {
	key := [2]string{from, to}
	if len(n.queues[key]) == 0 {
		return
	}
	s := n.queues[key][0]
	n.queues[key] = n.queues[key][1:]
	n.do(to, step{call: "take", node: from, sig: s, q: n.named(to, s.Name)})
}

// part ends the connection of two nodes: what is on its way is lost.
func (n *net) part(a, b string) {
	n.queues[[2]string{a, b}], n.queues[[2]string{b, a}] = nil, nil
	for _, way := range [][2]string{{a, b}, {b, a}} {
		n.do(way[0], step{call: "down", node: way[1]})
		if h := n.tables[way[0]].Halves(way[1]); h != 0 {
			n.fail("behind Down Halves is %d", h)
		}
	}
}

// act does something of chance.
func (n *net) act() {
	node := n.node()
	p, ok := n.living(node)
	q := n.process(n.node())
	switch k := n.r.Intn(100); {
	case k < 5 || !ok:
		n.birth(node)
	case k < 20:
		n.do(node, step{call: "link", p: p, q: q})
	case k < 30:
		if links := n.tables[node].Links(p); len(links) > 0 {
			q = links[n.r.Intn(len(links))]
		}
		n.do(node, step{call: "unlink", p: p, q: q})
	case k < 42:
		n.monitor(node, p, q)
	case k < 48:
		if refs := n.tables[node].Monitors(p); len(refs) > 0 {
			n.do(node, step{call: "demonitor", p: p, ref: refs[n.r.Intn(len(refs))]})
		}
	case k < 51:
		n.do(node, step{call: "end", p: p, q: word("boom")})
	case k < 99:
		n.deliver(node, n.node())
	case n.r.Intn(3) > 0:
		if other := n.node(); other != node {
			n.part(node, other)
		}
	default:
		n.crash(node)
	}
}

// monitor watches by the pid or by the name. A ref may be used again, but by a name: an answer to an earlier monitor of that name would be taken for one to the later one.
func (n *net) monitor(node string, p, q api.Term) {
	s := step{call: "monitor", p: p, q: q}
	whom := q
	if n.r.Intn(2) == 0 {
		s.ref = ref(node, n.creation[node], uint32(n.r.Intn(3)), 0, 0)
	} else {
		n.refs++
		s.ref, s.name, s.node = ref(node, n.creation[node], 10+n.refs, 0, 0), nameOf(q), q.Text
		whom = tuple(word(s.name), word(s.node))
	}
	if has(n.tables[node].Monitors(p), s.ref) {
		return
	}
	n.do(node, s)
	n.watches[node][show(p)+" "+show(s.ref)] = watch{p, s.ref, whom}
}

// crash ends an incarnation.
func (n *net) crash(node string) {
	for _, other := range netNodes {
		if other != node {
			n.part(node, other)
		}
	}
	n.start(node)
}

// settle takes all that is on its way.
func (n *net) settle() {
	for range 100000 {
		busy := false
		for _, from := range netNodes {
			for _, to := range netNodes {
				busy = busy || len(n.queues[[2]string{from, to}]) > 0
			}
		}
		if !busy {
			return
		}
		n.deliver(n.node(), n.node())
	}
	n.fail("it does not end")
}

// agree: each of two living processes is linked with the other, if that one is with it, and watches it, if it is watched by it; nothing else is left.
func (n *net) agree(a, b string) (links, monitors int) {
	x, y := n.tables[a], n.tables[b]
	for _, p := range n.born[a] {
		for _, q := range x.Links(p) {
			if q.Text != b {
				continue
			}
			links++
			if !y.Alive(q) || !has(y.Links(q), p) {
				n.fail("%s is linked with %s", show(p), show(q))
			}
		}
		for _, r := range x.Monitors(p) {
			w := n.watches[a][show(p)+" "+show(r)]
			if homeOf(w.whom) != b {
				continue
			}
			monitors++
			q := w.whom
			if q.Kind == api.KTuple {
				q = n.has(b, q.Args[0].Text)
			}
			if !y.Alive(q) || !has(y.Watchers(q), r) {
				n.fail("%s watches %s by %s", show(p), show(q), show(r))
			}
		}
	}
	return links, monitors
}

// has is who ever had a name.
func (n *net) has(node, name string) api.Term {
	i := slices.IndexFunc(n.born[node], func(p api.Term) bool { return nameOf(p) == name })
	return n.born[node][i]
}

// P19.10: what is told is taken, in order: then both sides hold the same halves.
func TestBothSides(t *testing.T) {
	seen := 0
	for seed := range int64(400) {
		n := newNet(t, seed)
		for range 3 {
			for range 150 {
				n.act()
			}
			n.settle()
			for _, a := range netNodes {
				for _, b := range netNodes {
					links, monitors := n.agree(a, b)
					if a == b {
						continue
					}
					back, watchers := n.agree(b, a)
					if h := n.tables[a].Halves(b); links != back || h != links+monitors+watchers || h != n.tables[b].Halves(a) {
						n.fail("%s and %s: %d and %d links, %d and %d monitors, halves %d and %d", a, b, links, back, monitors, watchers, h, n.tables[b].Halves(a))
					}
					seen += links + monitors
				}
			}
		}
	}
	if seen < 4000 {
		t.Errorf("only %d halves are left in all", seen)
	}
}

// P19.11: of each monitor at most one DOWN is told, of each link at most one exit, whatever else happens: signals that come twice, too.
func TestOneEnd(t *testing.T) {
	reasons := map[string]int{}
	for seed := range int64(100) {
		n := newNet(t, seed)
		a, p := n.tables["a@h"], n.born["a@h"][0]
		for round := range uint32(20) {
			q, r := n.process("b@h"), ref("a@h", 1, 1000+round, 0, 0)
			n.do("a@h", step{call: "unlink", p: p, q: q})
			n.settle()
			downs, exits := 0, 0
			n.told = func(effects []api.Effect) {
				for _, e := range effects {
					if e.Kind == api.FDown && sample.Same(e.Ref, r) {
						downs++
						reasons[e.Reason.Text]++
					}
					if e.Kind == api.FExit && sample.Same(e.To, p) && sample.Same(e.From, q) {
						exits++
						reasons[e.Reason.Text]++
					}
				}
			}
			n.do("a@h", step{call: "monitor", p: p, ref: r, q: q})
			n.do("a@h", step{call: "link", p: p, q: q})
			for range 30 {
				n.trouble(q)
			}
			if downs > 1 || exits > 1 || has(a.Monitors(p), r) == (downs == 1) || has(a.Links(p), q) == (exits == 1) {
				n.fail("%d downs, %d exits, but links %s and monitors %s", downs, exits, showAll(a.Links(p)), showAll(a.Monitors(p)))
			}
			n.told = nil
		}
	}
	for _, reason := range []string{"boom", "noproc", "noconnection"} {
		if reasons[reason] < 100 {
			t.Errorf("%s is seldom told: %v", reason, reasons)
		}
	}
}

// trouble is what may happen to a process of b@h, and between it and a@h.
func (n *net) trouble(q api.Term) {
	switch n.r.Intn(20) {
	case 0:
		if n.tables["b@h"].Alive(q) {
			n.do("b@h", step{call: "end", p: q, q: word("boom")})
			n.birth("b@h")
		}
	case 1:
		n.part("a@h", "b@h")
	case 2:
		n.part("b@h", "c@h")
	case 3, 4, 5:
		if queue := n.queues[[2]string{"b@h", "a@h"}]; len(queue) > 0 {
			n.do("a@h", step{call: "take", node: "b@h", sig: queue[0], q: n.named("a@h", queue[0].Name)})
		}
	case 6, 7, 8, 9:
		n.deliver("b@h", "a@h")
	default:
		n.deliver("a@h", "b@h")
	}
}
