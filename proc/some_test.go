package proc_test

import (
	"errors"
	"fmt"
	"strconv"
	"strings"
	"testing"

	"heddle/api"
	"heddle/compile"
	"heddle/proc"
	"heddle/sample"
	"heddle/term"
)

var num, word, tuple, list, null, pid, ref = sample.Int, sample.Atom, sample.Tuple, sample.List, sample.Nil, sample.Pid, sample.Ref

// standard is what most processes run: wait ends with what it is told to go with.
const standard = `-module(m). -export([spin/0, wait/0, wait/1, ask/0, asks/0, quit/1]).
	spin() -> spin().
	wait() -> receive {go, X} -> exit(X) end.
	wait(T) -> receive {go, X} -> exit(X) after T -> exit(late) end.
	ask() -> exit({answer, nodes()}).
	asks() -> nodes(), asks().
	quit(X) -> exit(X).
	hidden(X) -> exit(X).`

func source(t testing.TB, text string) api.Code {
	t.Helper()
	c, err := compile.Source(text)
	done(t, text, err)
	return c
}

// own is the pid of an id.
func own(id int) api.Term { return pid("n@h", 3, uint32(id), 0) }

// val is the value of a short text: #1 is the pid of the id 1, `-` is no term at all, all else a term's text.
func val(s string) api.Term {
	if s == "-" {
		return api.Term{}
	}
	if digits, short := strings.CutPrefix(s, "#"); short {
		if id, err := strconv.Atoi(digits); err == nil {
			return own(id)
		}
	}
	x, err := term.Read(s)
	if err != nil {
		panic(s + ": " + err.Error())
	}
	return x
}

// show is the short text of a value.
func show(x api.Term) string {
	switch {
	case sample.IsZero(x):
		return "-"
	case x.Kind == api.KPid && len(x.Nums) == 2 && sample.Same(x, own(int(x.Nums[0]))):
		return "#" + strconv.Itoa(int(x.Nums[0]))
	}
	s, err := term.Print(x)
	if err != nil {
		// Its Args may hold themselves.
		return fmt.Sprintf("no term (%v; %d %d %.20q %d %v %d)", err, x.Kind, x.Int, x.Text, x.Creation, x.Nums, len(x.Args))
	}
	return s[:min(len(s), 300)]
}

func showAll(terms []api.Term) string {
	var texts []string
	for _, x := range terms {
		texts = append(texts, show(x))
	}
	return strings.Join(texts, " ")
}

// step is one call, with all that it is given.
type step struct {
	call        string
	code        api.Code
	mod, fun    string
	args        []api.Term
	budget, now int
	p, from, x  api.Term // x is an answer, a message, a reason
	word        string   // a class, a name
	yes         bool
}

// answer is what a call tells.
type answer struct {
	pid   api.Term
	event api.Event
	n     int
	yes   bool
	exit  api.ExitKind
}

func (a answer) same(b answer) bool {
	return sample.Same(a.pid, b.pid) && sample.SameEvent(a.event, b.event) && a.n == b.n && a.yes == b.yes && a.exit == b.exit
}

// perform is the call, of a table.
func (s step) perform(x *proc.Table) (a answer, err error) {
	switch s.call {
	case "spawn":
		a.pid, err = x.Spawn(s.code, s.mod, s.fun, s.args)
	case "wake":
		a.n, err = x.Wake(s.now)
	case "run":
		a.pid, a.event, err = x.Run(s.budget, s.now)
	case "turn":
		err = x.Turn()
	case "park":
		err = x.Park(s.p)
	case "answer":
		err = x.Answer(s.p, s.x)
	case "fail":
		err = x.Fail(s.p, s.word, s.x)
	case "put":
		a.yes, err = x.Put(s.p, s.x)
	case "exit":
		a.exit, err = x.Exit(s.p, s.from, s.x, s.yes)
	case "trap":
		a.yes, err = x.Trap(s.p, s.yes)
	case "register":
		err = x.Register(s.word, s.p)
	case "unregister":
		err = x.Unregister(s.word)
	default:
		panic("no call: " + s.call)
	}
	return a, err
}

func (s step) String() string {
	return fmt.Sprintf("%s %s:%s(%s) %d %d %s %s %s %.50q %t", s.call, s.mod, s.fun, showAll(s.args), s.budget, s.now, show(s.p), show(s.from), show(s.x), s.word, s.yes)
}

// tell is what is told, short.
func (a answer) tell(call string) string {
	switch call {
	case "spawn":
		return show(a.pid)
	case "wake":
		return strconv.Itoa(a.n)
	case "run":
		return show(a.pid) + " " + tellEvent(a.event)
	case "put", "trap":
		return strconv.FormatBool(a.yes)
	case "exit":
		return [...]string{"none", "message", "ended"}[a.exit]
	}
	return ""
}

func tellEvent(e api.Event) string {
	switch e.Kind {
	case api.EvYield:
		return "yield"
	case api.EvWait:
		if e.Timed {
			return "wait " + strconv.Itoa(e.Until)
		}
		return "wait"
	case api.EvAct:
		return e.Name + "(" + showAll(e.Args) + ")"
	case api.EvEnd:
		return "end " + show(e.Reason)
	}
	return fmt.Sprintf("%+v", e)
}

// makeStep is the call of words: spawn FUN ARG ..; wake NOW; run BUDGET NOW; turn; park P; answer P X; fail P CLASS X; put P M; exit P FROM REASON LINK; trap P YES; register NAME P; unregister NAME.
func makeStep(c api.Code, words []string) step {
	s := step{call: words[0]}
	for i, field := range strings.Fields(map[string]string{"wake": "now", "run": "budget now", "park": "p", "answer": "p x", "fail": "p word x", "put": "p x", "exit": "p from x yes", "trap": "p yes", "register": "word p", "unregister": "word"}[s.call]) {
		text := words[i+1]
		switch field {
		case "now":
			s.now, _ = strconv.Atoi(text)
		case "budget":
			s.budget, _ = strconv.Atoi(text)
		case "p":
			s.p = val(text)
		case "from":
			s.from = val(text)
		case "x":
			s.x = val(text)
		case "word":
			s.word = text
		case "yes":
			s.yes = text == "link" || text == "yes"
		}
	}
	if s.call == "spawn" {
		s.code, s.mod, s.fun = c, "m", words[1]
		for _, text := range words[2:] {
			s.args = append(s.args, val(text))
		}
	}
	return s
}

// asker is what is asked for all that is to be seen.
type asker interface {
	Living() []api.Term
	Queue() []api.Term
	Ended() []api.Dead
	Messages(p api.Term) []api.Term
	State(p api.Term) (api.Process, bool)
	Traps(p api.Term) bool
	Name(p api.Term) (string, bool)
	Whereis(name string) (api.Term, bool)
}

// asked is what a table tells of words: living, queue, ended, messages P, state P, traps P, name P, whereis NAME.
func asked(x asker, words []string) (string, bool) {
	word := append(words, "")[1]
	switch words[0] {
	case "living":
		return tellAll(x.Living()), true
	case "queue":
		return tellAll(x.Queue()), true
	case "ended":
		return tellDead(x.Ended()), true
	case "messages":
		return tellAll(x.Messages(val(word))), true
	case "state":
		return tellState(x.State(val(word))), true
	case "traps":
		return strconv.FormatBool(x.Traps(val(word))), true
	case "name":
		return tellName(x.Name(val(word))), true
	case "whereis":
		p, ok := x.Whereis(word)
		text := fmt.Sprintf("%s %t", show(p), ok)
		sample.Scribble(p)
		return text, true
	}
	return "", false
}

// What was told is written over each time.

func tellAll(terms []api.Term) string {
	text := showAll(terms)
	scribble(terms)
	return text
}

func tellDead(ended []api.Dead) string {
	var texts []string
	for _, d := range ended {
		texts = append(texts, show(d.Pid)+" "+show(d.Reason))
		sample.Scribble(d.Pid)
		sample.Scribble(d.Reason)
	}
	clear(ended[:cap(ended)])
	return strings.Join(texts, ", ")
}

func tellName(name string, ok bool) string {
	if name == "" {
		name = "-"
	}
	return fmt.Sprintf("%s %t", name, ok)
}

func tellState(s api.Process, ok bool) string {
	if s == (api.Process{}) {
		return fmt.Sprintf("- %t", ok)
	}
	return fmt.Sprintf("%s %d %d %d %t", []string{"nobody", "ready", "waiting", "asked", "ended"}[s.State], s.Calls, s.Frames, s.Messages, ok)
}

func scribble(terms []api.Term) { sample.Scribble(api.Term{Args: terms}) }

// lookAt is all that is to be seen of some pids and names.
func lookAt(x asker, pids []api.Term, names []string) string {
	var text strings.Builder
	for _, what := range []string{"living", "queue", "ended"} {
		told, _ := asked(x, []string{what})
		text.WriteString(what + ": " + told + "\n")
	}
	for _, p := range pids {
		fmt.Fprintf(&text, "%s: %s %t %s [%s]\n", show(p), tellName(x.Name(p)), x.Traps(p), tellState(x.State(p)), tellAll(x.Messages(p)))
	}
	for _, name := range names {
		p, ok := x.Whereis(name)
		fmt.Fprintf(&text, "%.20q: %s %t\n", name, show(p), ok)
		sample.Scribble(p)
	}
	return text.String()
}

// look is all of the first pids, and of names that tests use.
func look(x asker) string {
	var pids []api.Term
	for id := range 12 {
		pids = append(pids, own(id))
	}
	return lookAt(x, pids, []string{"a", "b", "c", "d", "", "undefined"})
}

// play does calls, a line each, and holds what each comes to: `CALL -> ANSWER`. A number behind `!` is that with which a call is refused: then nothing is to be seen of it.
func play(t testing.TB, x *proc.Table, text string) {
	t.Helper()
	c := source(t, standard)
	for line := range strings.Lines(text) {
		line = strings.TrimSpace(line)
		if line == "" {
			continue
		}
		call, want, _ := strings.Cut(line, " ->")
		want = strings.TrimSpace(want)
		words := strings.Fields(call)
		if got, ok := asked(x, words); ok {
			if got != want {
				t.Fatalf("%s: %s", line, got)
			}
			continue
		}
		before := look(x)
		a, err := makeStep(c, words).perform(x)
		if code, wrong := strings.CutPrefix(want, "!"); wrong {
			var outer *api.Fault
			if !errors.As(err, &outer) || outer.Layer != "proc" || outer.At != 0 || strconv.Itoa(int(outer.Code)) != code || !a.same(answer{}) || look(x) != before {
				t.Fatalf("%s: %+v, %v; %s was %s", line, a, err, look(x), before)
			}
			continue
		}
		if got := a.tell(words[0]); err != nil || got != want {
			t.Fatalf("%s: got %s, %v", line, got, err)
		}
	}
}

// open is the table of n@h, creation 3, with processes that call those functions: `wait 5; spin`.
func open(t testing.TB, calls string) *proc.Table {
	t.Helper()
	x, err := proc.New("n@h", 3)
	if err != nil || x == nil {
		t.Fatalf("New: %v, %v", x, err)
	}
	if calls == "" {
		return x
	}
	c := source(t, standard)
	for call := range strings.SplitSeq(calls, ";") {
		_, err := makeStep(c, strings.Fields("spawn "+call)).perform(x)
		done(t, call, err)
	}
	return x
}

// settled is such a table whose processes have run till they wait, ask, or yield.
func settled(t testing.TB, calls string) *proc.Table {
	t.Helper()
	x := open(t, calls)
	for range len(x.Queue()) {
		_, event, err := x.Run(10, 0)
		done(t, "Run", err)
		if event.Kind == api.EvAct {
			done(t, "Turn", x.Turn())
		}
	}
	return x
}

func done(t testing.TB, what string, err error) {
	t.Helper()
	if err != nil {
		t.Fatalf("%s: %v", what, err)
	}
}

// fault is one of this layer.
func fault(code api.Errno) api.Fault { return api.Fault{Layer: "proc", Code: code} }

// under is the chain of a fault of this layer, at 0, with that one under it.
func under(chain ...api.Fault) []api.Fault { return sample.Under("proc", 0, chain) }

// vmFault is the chain of a fault of package vm under one of this layer.
func vmFault(chain ...api.Fault) []api.Fault {
	if len(chain) > 1 || chain[0].Layer != "vm" {
		chain = sample.Under("vm", 0, chain)
	}
	return under(chain...)
}

// refused: a call is refused with just this chain, tells nothing else, and changes nothing that is to be seen.
func refused(t testing.TB, x *proc.Table, s step, chain ...api.Fault) {
	t.Helper()
	before := look(x)
	a, err := s.perform(x)
	if !a.same(answer{}) || !sample.IsFault(err, chain...) {
		t.Fatalf("%v: %+v, %v, want %v", s, a, err, chain)
	}
	if after := look(x); after != before {
		t.Fatalf("%v: %s was %s", s, after, before)
	}
}

// tells holds what a call that is not refused tells.
func tells(t testing.TB, x *proc.Table, s step, want string) {
	t.Helper()
	a, err := s.perform(x)
	if got := a.tell(s.call); err != nil || got != want {
		t.Fatalf("%v: %s, %v, want %s", s, got, err, want)
	}
}

// strangers are values that are no pid of a living process of a table that has those of the ids 1 and 2, of which the second one has ended.
func strangers() []api.Term {
	laden := own(1)
	laden.Int = 1
	texted := own(1)
	texted.Args = sample.Ones(1)
	all := []api.Term{
		own(0), own(2), own(3), own(1 << 20), pid("n@h", 2, 1, 0), pid("n@h", 4, 1, 0), pid("n@h", 0, 1, 0), pid("n@i", 3, 1, 0), pid("N@h", 3, 1, 0), pid("n@h", 3, 1, 1), pid("n@h", 3, 0, 1),
		pid("n@h", 3, 1), pid("n@h", 3), pid("n@h", 3, 1, 0, 0), pid("", 3, 1, 0), laden, texted, ref("n@h", 3, 1, 0, 0), ref("n@h", 3, 1, 0),
		{Kind: api.KTuple, Text: "n@h", Creation: 3, Nums: []uint32{1, 0}}, {Text: "n@h", Creation: 3, Nums: []uint32{1, 0}}, num(1), word("a"), tuple(own(1)), list(own(1), null()), null(), sample.Itself(),
	}
	for _, n := range sample.NoTerms() {
		all = append(all, n.Value)
	}
	return all
}
