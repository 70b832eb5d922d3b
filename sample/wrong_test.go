package sample_test

import (
	"testing"

	"heddle/api"
	"heddle/sample"
	"heddle/term"
)

// Package term says of each just that.
func TestNoTerms(t *testing.T) {
	met := map[api.Errno]int{}
	for _, n := range sample.NoTerms() {
		if err := term.Check(n.Value); !sample.IsFault(err, n.Chain...) || len(n.Chain) == 0 {
			t.Errorf("%v: %v, want %v", n.Value.Kind, err, n.Chain)
		}
		met[n.Chain[0].Code]++
	}
	for _, code := range []api.Errno{api.ErrTerm, api.ErrRange, api.ErrMany, api.ErrDeep, api.ErrLong, api.ErrUTF, api.ErrName} {
		if met[code] == 0 {
			t.Errorf("none has the fault %d", code)
		}
	}
}

func TestUnder(t *testing.T) {
	chain := []api.Fault{{Layer: "term", At: 2, Code: api.ErrUTF}, {Layer: "atom", At: 1, Code: api.ErrUTF}}
	got := sample.Under("mail", 3, chain)
	if len(got) != 3 || got[0] != (api.Fault{Layer: "mail", At: 3, Code: api.ErrUTF}) || got[1] != chain[0] || got[2] != chain[1] || len(chain) != 2 {
		t.Errorf("%v", got)
	}
}

func TestItself(t *testing.T) {
	x := sample.Itself()
	if x.Kind != api.KTuple || len(x.Args) != 1 || &x.Args[0] != &x.Args[0].Args[0] {
		t.Error("a tuple that is not its own part")
	}
	if err := term.Check(x); !sample.IsFault(err, api.Fault{Layer: "term", At: api.MaxDepth, Code: api.ErrDeep}) {
		t.Error(err)
	}
}
