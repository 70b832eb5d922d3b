package check

import (
	"errors"
	"testing"

	"heddle/api"
	"heddle/sample"
)

// P12.1: a root that is no NProgram, ahead of nodes that stand at two places. (parse.Check refuses such a root ahead of this.)
func TestShape(t *testing.T) {
	l := []api.Node{{Kind: api.ENil}, {Kind: api.ETuple, Kids: []int{0, 0}}, {Kind: api.NProgram, Kids: []int{0, 1}}, {Kind: api.NProgram, Kids: []int{0}}}
	for root, code := range []api.Errno{api.ErrArg, api.ErrArg, api.ErrTwice} {
		if err := shape(l, root); !sample.IsFault(err, api.Fault{Layer: "check", Code: code}) {
			t.Errorf("%d: %v, not %d", root, err, code)
		}
	}
	if err := shape(l, 3); err != nil {
		t.Error(err)
	}
}

// A checker's panic is a fault at its place, also where something is about it; any other panic is none, and goes on.
func TestTold(t *testing.T) {
	broken := flaw{7, api.ErrGuard}
	for _, r := range []any{broken, errors.Join(errors.New("about it"), broken)} {
		if err := told(r); !sample.IsFault(err, api.Fault{Layer: "check", At: 7, Code: api.ErrGuard}) {
			t.Errorf("%v: %v", r, err)
		}
	}
	if text := broken.Error(); text != "at 7: heddle: errno 244" {
		t.Error(text)
	}
	for _, r := range []any{7, "seven", errors.New("seven"), api.ErrGuard} {
		func() {
			defer func() {
				if again := recover(); again != r {
					t.Errorf("%v: %v", r, again)
				}
			}()
			t.Errorf("%v: told as %v", r, told(r))
		}()
	}
}

// P12.1: a fault of the layer below lies under, whatever is about it.
func TestWrap(t *testing.T) {
	under := &api.Fault{Layer: "parse", At: 3, Code: api.ErrNest}
	if err := wrap(under); !sample.IsFault(err, api.Fault{Layer: "check", At: 3, Code: api.ErrNest}, *under) || !errors.Is(err, api.ErrNest) {
		t.Error(err)
	}
}

// Names stand behind two ways as on both, or are unsafe, whatever slots either way knows of.
func TestJoin(t *testing.T) {
	all := []standing{isUnbound, isBound, isUnsafe}
	for _, a := range all {
		for _, b := range all {
			want := isUnsafe
			if a == b {
				want = a
			}
			if got := join(standings{a}, standings{b}); len(got) != 1 || got[0] != want {
				t.Errorf("%d and %d: %v", a, b, got)
			}
			for _, got := range []standings{join(standings{a}, nil), join(nil, standings{a})} {
				if got.of(0) != join(standings{a}, standings{isUnbound}).of(0) || got.of(1) != isUnbound {
					t.Errorf("%d and none: %v", a, got)
				}
			}
		}
	}
}
