package link_test

import (
	"math"
	"slices"
	"strings"
	"testing"

	"heddle/api"
	"heddle/link"
	"heddle/sample"
)

// P19.1: any node's name, any creation.
func TestNew(t *testing.T) {
	for _, node := range []string{"a@h", "a@h.i-j_k", "A-_9@9", "a@" + strings.Repeat("h", api.MaxName-2)} {
		for _, creation := range []uint32{0, 1, 255, 256, math.MaxInt32, math.MaxUint32} {
			x, err := link.New(node, creation)
			done(t, "New", err)
			p := pid(node, creation, 1, 0)
			if x.Alive(p) || len(x.Links(p)) > 0 || len(x.Monitors(p)) > 0 || len(x.Watchers(p)) > 0 || x.Halves(node) != 0 || x.Halves("b@h") != 0 {
				t.Error("a new table has processes")
			}
			done(t, "Born", x.Born(p))
			if !x.Alive(p) || x.Alive(pid(node, creation+1, 1, 0)) || x.Alive(pid(node, creation-1, 1, 0)) {
				t.Errorf("%s %d: who lives", node, creation)
			}
			refused(t, "Born of another creation", nil, x.Born(pid(node, creation+1, 1, 0)), api.ErrArg)
		}
	}
}

func TestNewOfNoNode(t *testing.T) {
	for _, node := range noNodes {
		for _, creation := range []uint32{0, 1, math.MaxUint32} {
			x, err := link.New(node, creation)
			refused(t, "New", nil, err, api.ErrArg)
			if x != nil {
				t.Errorf("New(%.20q) tells a table", node)
			}
		}
	}
}

// P19.1: a pid of this incarnation is born once, whatever its id and serial, and lives till its end.
func TestBorn(t *testing.T) {
	x := open(t)
	var born []api.Term
	for _, id := range []uint32{1, 0, math.MaxUint32, 2} {
		for _, serial := range []uint32{0, 1, math.MaxUint32} {
			p := pid("a@h", 1, id, serial)
			if x.Alive(p) {
				t.Fatalf("%s lives ahead of its birth", show(p))
			}
			done(t, "Born", x.Born(p))
			born = append(born, p)
			for _, q := range born {
				if !x.Alive(q) {
					t.Fatalf("%s does not live", show(q))
				}
				refused(t, "Born of one that lives", nil, x.Born(q), api.ErrTwice)
			}
		}
	}
	for i, p := range born {
		if effects, err := x.End(p, word("boom")); len(effects) > 0 || err != nil {
			t.Fatalf("End: %s, %v", showEffects(effects), err)
		}
		for k, q := range born {
			if x.Alive(q) != (k > i) {
				t.Fatalf("%s has ended: Alive(%s) = %t", show(p), show(q), x.Alive(q))
			}
			refused(t, "Born of one that lives, or has lived", nil, x.Born(q), api.ErrTwice)
		}
	}
	play(t, x, "born a7 ->\n alive a7 -> true\n born a7 -> !6")
}

func TestBornOfNobody(t *testing.T) {
	x := open(t, "a1")
	others := []api.Term{val("b1"), val("b2"), val("a1/0"), val("a1/2"), val("a2/2"), pid("a@i", 1, 2, 0), pid("A@h", 1, 2, 0), val("a#2"), {}}
	for _, p := range slices.Concat(others, noTerms(), otherTerms()) {
		refused(t, "Born("+show(p)+")", nil, x.Born(p), api.ErrArg)
		if x.Alive(p) || len(x.Links(p)) > 0 || len(x.Monitors(p)) > 0 || len(x.Watchers(p)) > 0 {
			t.Errorf("%s lives", show(p))
		}
	}
	play(t, x, "born a1 -> !6\n born a2 ->\n born a2 -> !6")
}

// Two tables know nothing of one another, whatever they are called.
func TestTables(t *testing.T) {
	x, y, z := open(t, "a1"), open(t), open(t, "a1", "a2")
	play(t, z, "link a1 a2 ->\n unlink a1 a2 ->\n link a1 b7 -> b: link a1 b7\n unlink a1 b7 -> b: unlink 1 a1 b7")
	play(t, y, "alive a1 -> false\n born a1 ->\n links a1 ->\n halves b -> 0")
	play(t, x, "link a1 b7 -> b: link a1 b7\n unlink a1 b7 -> b: unlink 1 a1 b7\n end a1 x ->\n born a1 -> !6")
	play(t, y, "alive a1 -> true\n born a1 -> !6")
	play(t, z, "alive a1 -> true\n halves b -> 1")
	if !sample.IsFault(y.Born(val("a1")), fault(api.ErrTwice)) {
		t.Error("Born")
	}
}
