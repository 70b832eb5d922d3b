package dist_test

import (
	"math"
	"slices"
	"strings"
	"testing"

	"heddle/api"
	"heddle/dist"
	"heddle/sample"
)

// checks: Check takes a signal, or refuses it; and what all other calls tell of it fits that.
func checks(t *testing.T, what string, s api.Sig, right bool) {
	t.Helper()
	err := dist.Check(s)
	if right && err != nil || !right && !refused(err, fault(0, api.ErrSig)) {
		t.Errorf("%s: Check(%s) = %v", what, show(s), err)
	}
	if tell(s).right != right {
		t.Errorf("%s: the model tells otherwise", what)
	}
	tells(t, s)
}

// P9.1: every kind, and what is none.
func TestCheckKinds(t *testing.T) {
	for _, k := range kinds {
		checks(t, "all fields", full(k), true)
		checks(t, "its fields", bare(k), true)
		checks(t, "its fields, What a name", named(k), true)
		checks(t, "no field", api.Sig{Kind: k}, false)
	}
	for _, k := range noKinds {
		checks(t, "no kind", full(k), false)
		checks(t, "no kind, no field", api.Sig{Kind: k}, false)
	}
	for k := api.SigKind(-3); k < 300; k++ {
		if (dist.Check(full(k)) == nil) != slices.Contains(kinds, k) {
			t.Errorf("kind %d", k)
		}
	}
	// The numbers are the distribution protocol's.
	if !slices.Equal(kinds, []api.SigKind{1, 2, 3, 6, 8, 19, 20, 21, 29, 31, 35, 36}) {
		t.Errorf("%v", kinds)
	}
}

// termFields are the fields that are terms: which kinds name them, and what they may be there (nothing said: any term). Of What only its name plays a part here: it is tested on its own.
var termFields = []struct {
	name string
	of   func(*api.Sig) *api.Term
	may  map[api.SigKind][]api.Kind
}{
	{"From", func(s *api.Sig) *api.Term { return &s.From }, map[api.SigKind][]api.Kind{1: {4}, 3: {4}, 6: {4}, 8: {4}, 19: {4}, 20: {4}, 29: {4}, 35: {4}, 36: {4}}},
	{"To", func(s *api.Sig) *api.Term { return &s.To }, map[api.SigKind][]api.Kind{1: {4}, 2: {4}, 3: {4}, 8: {4}, 21: {4}, 31: {4}, 35: {4}, 36: {4}}},
	{"Ref", func(s *api.Sig) *api.Term { return &s.Ref }, map[api.SigKind][]api.Kind{19: {3}, 20: {3}, 21: {3}, 29: {3}, 31: {3}}},
	{"Reason", func(s *api.Sig) *api.Term { return &s.Reason }, map[api.SigKind][]api.Kind{3: nil, 8: nil, 21: nil, 31: {4, 2}}},
	{"Msg", func(s *api.Sig) *api.Term { return &s.Msg }, map[api.SigKind][]api.Kind{2: nil, 6: nil}},
}

// P9.1: each term that a kind names, of each kind of term and of what is no term; those that it does not name.
func TestCheckTerms(t *testing.T) {
	for _, k := range kinds {
		for _, f := range termFields {
			may, isNamed := f.may[k]
			for _, x := range terms() {
				s := full(k)
				*f.of(&s) = x
				checks(t, f.name, s, !isNamed || len(may) == 0 || slices.Contains(may, x.Kind))
			}
			for _, x := range noTerms() {
				s := full(k)
				*f.of(&s) = x
				checks(t, f.name+", no term", s, !isNamed)
			}
		}
	}
}

// P9.1: texts that a kind names, and those that it does not. Of a monitor Name plays no part beside a pid.
func TestCheckTexts(t *testing.T) {
	for _, f := range []struct {
		name  string
		of    func(*api.Sig) *string
		named []api.SigKind
	}{
		{"Name", func(s *api.Sig) *string { return &s.Name }, []api.SigKind{6}},
		{"Mod", func(s *api.Sig) *string { return &s.Mod }, []api.SigKind{29}},
		{"Fun", func(s *api.Sig) *string { return &s.Fun }, []api.SigKind{29}},
	} {
		for _, k := range kinds {
			for _, text := range []string{"", "x", "X y", "end", "é", "\x00", strings.Repeat("x", 255)} {
				s := full(k)
				*f.of(&s) = text
				checks(t, f.name, s, true)
			}
			for _, text := range noAtoms {
				s := full(k)
				*f.of(&s) = text
				checks(t, f.name+", no atom", s, !slices.Contains(f.named, k))
			}
		}
	}
}

// P9.1: What is a pid, or else the Name: whatever stands beside a pid, and whatever it is that is none, plays no part.
func TestCheckWhat(t *testing.T) {
	for _, k := range []api.SigKind{api.GMonitor, api.GDemonitor, api.GMonitorExit} {
		target := func(s *api.Sig) *api.Term {
			if k == api.GMonitorExit {
				return &s.From
			}
			return &s.To
		}
		for _, x := range slices.Concat(terms(), noTerms()) {
			isPid := isTerm(x, api.KPid)
			for _, name := range []string{"", "x", strings.Repeat("x", 255)} {
				s := full(k)
				s.Name, *target(&s) = name, x
				checks(t, "What with an atom", s, true)
				control, _, err := dist.Control(s)
				got, want := control, x
				if k == api.GMonitorExit && err == nil {
					got = control.Args[1]
				} else if err == nil {
					got = control.Args[2]
				}
				if !isPid {
					want = symbol(name)
				}
				if !sample.Same(got, want) {
					t.Errorf("What of %s is %s, %v", show(s), show(got), err)
				}
			}
			for _, name := range noAtoms {
				s := full(k)
				s.Name, *target(&s) = name, x
				checks(t, "What without an atom", s, isPid)
			}
		}
	}
}

// P9.1: an ID's edges.
func TestCheckID(t *testing.T) {
	for _, k := range kinds {
		isNamed := k == api.GUnlink || k == api.GUnlinkAck
		for _, id := range []uint32{1, 2, 255, 256, math.MaxInt32 - 1, math.MaxInt32} {
			s := full(k)
			s.ID = id
			checks(t, "ID", s, true)
		}
		for _, id := range []uint32{0, math.MaxInt32 + 1, math.MaxInt32 + 2, math.MaxUint32} {
			s := full(k)
			s.ID = id
			checks(t, "no ID", s, !isNamed)
		}
	}
}

// P9.1: how many Args, and what they are.
func TestCheckArgs(t *testing.T) {
	for _, k := range kinds {
		spawns := k == api.GSpawn
		for _, n := range []int{0, 1, 2, 254, 255} {
			s := full(k)
			s.Args = ones(n)
			checks(t, "Args", s, true)
		}
		for _, n := range []int{256, 257, 512, 256 + 256*256, 1 << 17} {
			s := full(k)
			s.Args = ones(n)
			checks(t, "too many Args", s, !spawns)
		}
		for _, x := range terms() {
			s := full(k)
			s.Args = []api.Term{x, num(1), x}
			checks(t, "an Arg", s, true)
		}
		for _, x := range noTerms() {
			for at := range 3 {
				s := full(k)
				s.Args = ones(3)
				s.Args[at] = x
				checks(t, "an Arg that is no term", s, !spawns)
			}
		}
	}
	s := full(api.GSpawn)
	s.Args = ones(255)
	s.Args[254] = api.Term{}
	checks(t, "the last Arg", s, false)
	// Each is a term, though their list is none.
	s.Args = []api.Term{tuple(ones(4095)...), tuple(ones(4095)...), chain(255, num(1))}
	checks(t, "great Args", s, true)
	s.Args = []api.Term{}
	checks(t, "Args that are empty", s, true)
}
