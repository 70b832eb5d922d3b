package code_test

import (
	"fmt"
	"math"
	"slices"
	"strings"
	"testing"

	"heddle/api"
	"heddle/code"
)

// acts are the acts as api tells them, in order.
var acts = strings.Fields("self/0 node/0 spawn/3 spawn/4 link/1 unlink/1 monitor/2 demonitor/1 exit/2 process_flag/2 register/2 unregister/1 whereis/1 monitor_node/2 nodes/0 make_ref/0 display/1")

func signatures(l []api.Bif) []string {
	var all []string
	for _, b := range l {
		all = append(all, fmt.Sprint(b.Name, "/", b.Arity))
	}
	return all
}

// P15.1: all of them, in order, as api has them.
func TestActs(t *testing.T) {
	got := code.Acts()
	if !slices.Equal(signatures(got), acts) {
		t.Errorf("Acts = %v; want %v", got, acts)
	}
	for i, b := range got {
		if !slices.Contains(api.Bifs(), b) || (b.Kind == api.BKnown) != (i < 2) || (b.Kind == api.BAct) != (i >= 2) || b.Guard != (i < 2) {
			t.Errorf("act %d is %v", i, b)
		}
	}
}

// P15.1: each by its name and number of arguments; no other by that name.
func TestAct(t *testing.T) {
	arities := []int{math.MinInt, -1, 0, 1, 2, 3, 4, 5, 255, 256, 1 << 32, 1<<32 + 1, math.MaxInt}
	for _, b := range code.Acts() {
		for _, arity := range arities {
			want := slices.Index(acts, fmt.Sprint(b.Name, "/", arity))
			if n, ok := code.Act(b.Name, arity); ok != (want >= 0) || n != max(want, 0) {
				t.Errorf("Act(%q, %d) = %d, %v; want %d", b.Name, arity, n, ok, want)
			}
		}
	}
	for _, name := range []string{"", "foo", "Self", "self ", "self/0", "erlang:self", "\xff", "!", "+", "send", "hd", "abs", "element", "throw", "error", "is_pid", "max", "list_to_atom"} {
		for _, arity := range arities {
			if n, ok := code.Act(name, arity); ok || n != 0 {
				t.Errorf("Act(%q, %d) = %d, %v", name, arity, n, ok)
			}
		}
	}
}

// P15.1: built-ins of terms and those that raise are no acts, also where an act has their name.
func TestNoActs(t *testing.T) {
	for _, b := range api.Bifs() {
		n, ok := code.Act(b.Name, b.Arity)
		if isAct := b.Kind == api.BKnown || b.Kind == api.BAct; ok != isAct || !isAct && n != 0 {
			t.Errorf("Act(%q, %d) = %d, %v", b.Name, b.Arity, n, ok)
		}
	}
	for _, c := range []struct {
		name         string
		arity, place int
	}{{"node", 0, 1}, {"exit", 2, 8}, {"display", 1, 16}} {
		if n, ok := code.Act(c.name, c.arity); n != c.place || !ok {
			t.Errorf("Act(%q, %d) = %d, %v", c.name, c.arity, n, ok)
		}
	}
	if n, ok := code.Act("node", 1); ok || n != 0 {
		t.Errorf("Act(node, 1) = %d", n)
	}
	if n, ok := code.Act("exit", 1); ok || n != 0 {
		t.Errorf("Act(exit, 1) = %d", n)
	}
}
