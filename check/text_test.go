package check_test

import (
	"cmp"
	"slices"
	"strconv"
	"strings"
	"testing"

	"heddle/api"
	"heddle/check"
	"heddle/parse"
	"heddle/sample"
)

// head stands ahead of the forms of most texts.
const head = "-module(m). "

// faulty is a fault of this layer.
func faulty(at int, code api.Errno) api.Fault { return api.Fault{Layer: "check", At: at, Code: code} }

// isRefused: did Check answer just this chain of faults, and nothing beside it?
func isRefused(seen []api.Seen, err error, chain ...api.Fault) bool {
	return len(seen) == 0 && sample.IsFault(err, chain...)
}

// nodes is the tree of a program's text.
func nodes(t *testing.T, s string) ([]api.Node, int) {
	t.Helper()
	l, root, err := parse.Text(s)
	if err != nil {
		t.Fatalf("%s: %v", cut(s), err)
	}
	return l, root
}

// cut keeps what a test tells of great texts short.
func cut(s string) string {
	if len(s) > 400 {
		return s[:400] + ".."
	}
	return s
}

// program holds what Check answers of a program's text: that it is right, or a fault at the place that ^ marks.
func program(t *testing.T, code api.Errno, s string) []api.Seen {
	t.Helper()
	at := strings.Index(s, "^")
	l, root := nodes(t, strings.Replace(s, "^", "", 1))
	seen, err := check.Check(l, root)
	switch {
	case code == api.OK:
		if err != nil || len(seen) != len(l) || at >= 0 {
			t.Errorf("%s: %v", cut(s), err)
		}
	case !isRefused(seen, err, faulty(at, code)):
		t.Errorf("%s: %v, not %d at %d", cut(s), err, code, at)
	}
	return seen
}

// forms holds what Check answers of a module's forms, likewise.
func forms(t *testing.T, code api.Errno, s string) []api.Seen {
	t.Helper()
	return program(t, code, head+s)
}

// body holds what Check answers of a body in which V is bound, f/1 is the function itself, and g/0 is another one.
func body(t *testing.T, code api.Errno, s string) []api.Seen {
	t.Helper()
	return forms(t, code, "f(V) -> "+s+". g() -> 1.")
}

// inOrder are the numbers of the nodes that an answer tells something of, by their places in the text.
func inOrder(l []api.Node, seen []api.Seen) []int {
	var numbers []int
	for i := range seen {
		if seen[i].Role != api.RNone {
			numbers = append(numbers, i)
		}
	}
	slices.SortStableFunc(numbers, func(a, b int) int { return cmp.Compare(l[a].At, l[b].At) })
	return numbers
}

// known writes what an answer tells of variables and calls, in the order of the text: X=0 is bound there, X?0 tested, X.0 read, _ is any; f/1 is a function, erlang:f/1 a built-in, k:f/1 another module's.
func known(l []api.Node, seen []api.Seen) string {
	var all []string
	for _, i := range inOrder(l, seen) {
		n, slot := l[i], strconv.Itoa(seen[i].Slot)
		arity := "/" + strconv.Itoa(len(n.Kids))
		switch seen[i].Role {
		case api.RBind:
			all = append(all, n.Text+"="+slot)
		case api.RTest:
			all = append(all, n.Text+"?"+slot)
		case api.RUse:
			all = append(all, n.Text+"."+slot)
		case api.RAny:
			all = append(all, strings.TrimSuffix(n.Text+slot, "0"))
		case api.RLocal:
			function := l[seen[i].Slot]
			all = append(all, function.Text+"/"+strconv.FormatInt(function.Int, 10))
		case api.RBif:
			bif := api.Bifs()[seen[i].Slot]
			all = append(all, "erlang:"+bif.Name+"/"+strconv.Itoa(bif.Arity))
		case api.RRemote:
			all = append(all, strings.TrimSuffix(n.Mod+":"+n.Text+arity+slot, "0"))
		default:
			all = append(all, "role "+strconv.Itoa(int(seen[i].Role)))
		}
	}
	return strings.Join(all, " ")
}

// knows holds what is known of a right program's variables and calls.
func knows(t *testing.T, s, want string) {
	t.Helper()
	l, root := nodes(t, head+s)
	seen, err := check.Check(l, root)
	if got := known(l, seen); err != nil || got != want {
		t.Errorf("%s: %s, %v, not %s", cut(s), cut(got), err, cut(want))
	}
}
