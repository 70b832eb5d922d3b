package proc_test

import (
	"strings"
	"testing"

	"heddle/api"
	"heddle/sample"
)

// P20.8: a name has one process, a process one name; both may be had again when they are free.
func TestNames(t *testing.T) {
	play(t, open(t, "spin; spin; spin"), `
		name #1 -> - false
		whereis a -> - false
		register a #1 ->
		name #1 -> a true
		whereis a -> #1 true
		register a #2 -> !401
		register a #1 -> !401
		register b #1 -> !401
		whereis b -> - false
		register b #2 ->
		register b #1 -> !401
		unregister c -> !401
		unregister a ->
		whereis a -> - false
		name #1 -> - false
		unregister a -> !401
		register c #1 ->
		name #1 -> c true
		register a #3 ->
		whereis a -> #3 true
		exit #3 #1 boom link -> ended
		whereis a -> - false
		name #3 -> - false
		unregister a -> !401
		register a #3 -> !400
		spawn quit done -> #4
		register a #4 ->
		turn ->
		turn ->
		run 10 0 -> #4 end done
		whereis a -> - false
		whereis b -> #2 true
		whereis c -> #1 true
	`)
}

// P20.8: all atoms' texts but `undefined` and the empty one may be names.
func TestNamesThatMayBe(t *testing.T) {
	for _, name := range []string{"x", "Undefined", "undefine", "undefined ", "true", "kill", "'", "a b", "é", "\x00", "𝄞", strings.Repeat("x", 255), "after"} {
		x := open(t, "spin")
		done(t, name, x.Register(name, own(1)))
		if got, ok := x.Name(own(1)); got != name || !ok {
			t.Errorf("Name: %q, %t", got, ok)
		}
		if p, ok := x.Whereis(name); !ok || !sample.Same(p, own(1)) {
			t.Errorf("Whereis(%q): %s, %t", name, show(p), ok)
		}
		done(t, name, x.Unregister(name))
	}
}

// P20.8: names that may not be; ahead of a process that has one already, behind one that does not live.
func TestNamesThatMayNotBe(t *testing.T) {
	x := open(t, "spin; quit a; spin")
	play(t, x, "turn ->\n run 10 0 -> #2 end a\n register a #3 ->")
	for _, name := range []string{"", "undefined", "\xff", "a\xc3", "\xed\xa0\x80", strings.Repeat("x", 256), strings.Repeat("é", 128), strings.Repeat("x", 1<<17)} {
		refused(t, x, step{call: "register", word: name, p: own(1)}, fault(api.ErrArg))
		refused(t, x, step{call: "register", word: name, p: own(3)}, fault(api.ErrArg))
		refused(t, x, step{call: "register", word: name, p: own(2)}, fault(api.ErrProc))
		refused(t, x, step{call: "unregister", word: name}, fault(api.ErrNamed))
		if p, ok := x.Whereis(name); ok || !sample.IsZero(p) {
			t.Errorf("Whereis(%.20q): %s, %t", name, show(p), ok)
		}
	}
	refused(t, x, step{call: "register", word: "a", p: own(1)}, fault(api.ErrNamed))
	refused(t, x, step{call: "register", word: "b", p: own(3)}, fault(api.ErrNamed))
	refused(t, x, step{call: "register", word: "a", p: own(3)}, fault(api.ErrNamed))
}
