package vm_test

import (
	"errors"
	"fmt"
	"slices"
	"strconv"
	"strings"
	"testing"

	"heddle/api"
	"heddle/code"
	"heddle/compile"
	"heddle/sample"
	"heddle/term"
	"heddle/vm"
)

var num, word, tuple, list, null, pid = sample.Int, sample.Atom, sample.Tuple, sample.List, sample.Nil, sample.Pid

// who is the process of most tests.
func who() api.Who { return api.Who{Self: pid("n@h", 1, 5, 0), Node: "n@h"} }

func read(t testing.TB, text string) api.Term {
	t.Helper()
	x, err := term.Read(text)
	if err != nil {
		t.Fatalf("%.200q: %v", text, err)
	}
	return x
}

// show is a term's text, cut short.
func show(x api.Term) string {
	s, err := term.Print(x)
	if err != nil {
		return "no term: " + err.Error()
	}
	if len(s) > 300 {
		s = s[:300] + ".."
	}
	return s
}

func showAll(terms []api.Term) string {
	var texts []string
	for _, x := range terms {
		texts = append(texts, show(x))
	}
	return strings.Join(texts, ",")
}

// made is code that is made by hand: constants with blanks between, and the functions of module m, all of them exported, each as `NAME ARITY LOCALS: INSTRUCTION; ..`, where `3*pop` is three of them.
func made(t testing.TB, consts string, funs ...string) api.Code {
	t.Helper()
	var image strings.Builder
	for _, text := range strings.Fields(consts) {
		image.WriteString("const " + text + "\n")
	}
	image.WriteString("module m\nexport")
	for i := range funs {
		image.WriteString(" " + strconv.Itoa(i))
	}
	for _, text := range funs {
		head, body, _ := strings.Cut(text, ": ")
		image.WriteString("\nfun " + head)
		for part := range strings.SplitSeq(body, "; ") {
			times := 1
			if count, rest, several := strings.Cut(part, "*"); several {
				times, _ = strconv.Atoi(count)
				part = rest
			}
			image.WriteString(strings.Repeat("\n "+part, times))
		}
	}
	c, err := code.Read(image.String() + "\n")
	if err != nil {
		t.Fatalf("%q: %v", funs, err)
	}
	return c
}

// source is the code of module m with these forms, of which f with so many arguments is exported.
func source(t testing.TB, forms string, arity int) api.Code {
	t.Helper()
	c, err := compile.Source(fmt.Sprintf("-module(m). -export([f/%d]). %s", arity, forms))
	if err != nil {
		t.Fatalf("%s: %v", forms, err)
	}
	return c
}

// start is a process that calls the function f of module m.
func start(t testing.TB, c api.Code, args ...api.Term) *vm.VM {
	t.Helper()
	v, err := vm.New(c, "m", "f", args, who())
	if err != nil || v == nil {
		t.Fatalf("New: %v, %v", v, err)
	}
	return v
}

// hand is a process of code that is made by hand, whose function f takes no arguments.
func hand(t testing.TB, consts string, funs ...string) *vm.VM {
	t.Helper()
	return start(t, made(t, consts, funs...))
}

// text is a process of a program's text.
func text(t testing.TB, forms string, args ...string) *vm.VM {
	t.Helper()
	var terms []api.Term
	for _, x := range args {
		terms = append(terms, read(t, x))
	}
	return start(t, source(t, forms, len(args)), terms...)
}

// tell is an event, short; what must be zero in it and is not is told, too.
func tell(e api.Event) string {
	var s string
	used := " " + strconv.Itoa(e.Used)
	switch e.Kind {
	case api.EvYield:
		s = "yield"
	case api.EvWait:
		s = "wait"
		if e.Timed {
			s += " till " + strconv.Itoa(e.Until)
			e.Until, e.Timed = 0, false
		}
	case api.EvAct:
		s = e.Name + "(" + showAll(e.Args) + ")"
		e.Name, e.Args = "", nil
	case api.EvEnd:
		s = "end " + show(e.Reason)
		e.Reason = api.Term{}
	}
	if !sample.SameEvent(e, api.Event{Kind: e.Kind, Used: e.Used}) {
		s += fmt.Sprintf(" and %+v", e)
	}
	return s + used
}

// view is all that is to be seen of a process.
type view struct {
	api.Process
	messages []api.Term
}

func (a view) same(b view) bool {
	return a.Process == b.Process && slices.EqualFunc(a.messages, b.messages, sample.Same)
}

func (a view) String() string {
	return fmt.Sprintf("%s %d %d [%s]", []string{"nobody", "ready", "waiting", "asked", "ended"}[a.State], a.Calls, a.Frames, showAll(a.messages[:min(len(a.messages), 9)]))
}

// look asks all that there is to ask, twice: to ask changes nothing.
func look(t testing.TB, v *vm.VM) view {
	t.Helper()
	a, b := view{v.State(), v.Messages()}, view{v.State(), v.Messages()}
	if !a.same(b) {
		t.Fatalf("to ask changes %v to %v", a, b)
	}
	if a.Process.Messages != len(a.messages) {
		t.Fatalf("State tells %d messages, but there are %d", a.Process.Messages, len(a.messages))
	}
	return a
}

// fault is one of this layer.
func fault(at int, code api.Errno) api.Fault { return api.Fault{Layer: "vm", At: at, Code: code} }

// refused holds that an error is one of this layer with nothing under it.
func refused(t testing.TB, what string, err error, code api.Errno) {
	t.Helper()
	if !sample.IsFault(err, fault(0, code)) {
		t.Fatalf("%s: %v, want errno %d", what, err, code)
	}
}

func done(t testing.TB, what string, err error) {
	t.Helper()
	if err != nil {
		t.Fatalf("%s: %v", what, err)
	}
}

// runs holds what a Run comes to, as tell tells it.
func runs(t testing.TB, v *vm.VM, budget, now int, want string) api.Event {
	t.Helper()
	e, err := v.Run(budget, now)
	if got := tell(e); err != nil || got != want {
		t.Fatalf("Run(%d, %d): %s, %v, want %s", budget, now, got, err, want)
	}
	return e
}

// play does calls and holds what each comes to: `run BUDGET NOW: EVENT`, `resume TERM`, `raise CLASS TERM`, `put TERM`, `is VIEW`. A number behind `!` at the end is that with which a call is refused: then nothing has changed.
func play(t *testing.T, v *vm.VM, steps ...string) {
	t.Helper()
	for _, step := range steps {
		call, code, wrong := refusal(step)
		before := look(t, v)
		got, err := perform(t, v, call)
		var want string
		if _, event, found := strings.Cut(call, ": "); found {
			want = event
		}
		if wrong {
			var outer *api.Fault
			if after := look(t, v); !errors.As(err, &outer) || outer.Layer != "vm" || int(outer.Code) != code || got != " 0" && got != "" || !after.same(before) {
				t.Fatalf("%s: %s, %v; %v, that was %v", step, got, err, after, before)
			}
			continue
		}
		if err != nil || got != want {
			t.Fatalf("%s: %s, %v", step, got, err)
		}
	}
}

// refusal is a call of play and the number with which it is refused, if it is.
func refusal(step string) (call string, code int, wrong bool) {
	if i := strings.LastIndex(step, " !"); i >= 0 {
		if code, err := strconv.Atoi(step[i+2:]); err == nil {
			return step[:i], code, true
		}
	}
	return step, 0, false
}

// perform does one call of play.
func perform(t *testing.T, v *vm.VM, call string) (string, error) {
	t.Helper()
	words := strings.Fields(strings.ReplaceAll(call, ": ", " : "))
	switch words[0] {
	case "run":
		budget, _ := strconv.Atoi(words[1])
		now, _ := strconv.Atoi(words[2])
		e, err := v.Run(budget, now)
		return tell(e), err
	case "resume":
		return "", v.Resume(read(t, words[1]))
	case "raise":
		return "", v.Raise(words[1], read(t, words[2]))
	case "put":
		return "", v.Put(read(t, words[1]))
	case "is":
		return look(t, v).String(), nil
	}
	t.Fatalf("no call: %s", call)
	return "", nil
}

// under is the chain of a fault of this layer with that one under it.
func under(at int, chain []api.Fault) []api.Fault { return sample.Under("vm", at, chain) }
