package dist_test

import (
	"slices"
	"strings"
	"testing"

	"heddle/api"
	"heddle/dist"
)

// names is which fields a kind names, a monitor's What being a pid.
var names = map[api.SigKind]string{1: "From To", 2: "To Msg", 3: "From To Reason", 6: "From Name Msg", 8: "From To Reason", 19: "From To Ref", 20: "From To Ref", 21: "From To Ref Reason", 29: "Ref From Mod Fun Args", 31: "Ref To Reason", 35: "ID From To", 36: "ID From To"}

// change is a field that is another one, but right.
type change struct {
	field string
	do    func(*api.Sig)
}

func changes() []change {
	var all []change
	add := func(field string, do func(*api.Sig)) { all = append(all, change{field, do}) }
	for _, p := range []api.Term{pid("c@h", 1, 5, 0), pid("a@h", 2, 5, 0), pid("a@h", 1, 6, 0), pid("a@h", 1, 5, 1)} {
		add("From", func(s *api.Sig) { s.From = p })
	}
	for _, p := range []api.Term{pid("c@h", 1, 7, 0), pid("b@h", 0, 7, 0), pid("b@h", 1, 8, 0), pid("b@h", 1, 7, 1), pid("a@h", 1, 5, 0)} {
		add("To", func(s *api.Sig) { s.To = p })
	}
	for _, r := range []api.Term{ref("b@h", 1, 1, 2, 3), ref("a@h", 2, 1, 2, 3), ref("a@h", 1, 2, 2, 3), ref("a@h", 1, 1, 3, 3), ref("a@h", 1, 1, 2, 4)} {
		add("Ref", func(s *api.Sig) { s.Ref = r })
	}
	for _, text := range []string{"", "y", "xx", "X"} {
		add("Name", func(s *api.Sig) { s.Name = text })
		add("Mod", func(s *api.Sig) { s.Mod = text })
		add("Fun", func(s *api.Sig) { s.Fun = text })
	}
	add("Mod", func(s *api.Sig) { s.Mod = s.Fun })
	for _, id := range []uint32{1, 2, 4, api.MaxWire} {
		add("ID", func(s *api.Sig) { s.ID = id })
	}
	for _, x := range []api.Term{symbol("q"), symbol(""), pid("b@h", 1, 7, 0)} {
		add("Reason", func(s *api.Sig) { s.Reason = x })
	}
	for _, x := range []api.Term{num(8), symbol("r"), null(), list(num(9), null()), tuple(num(9))} {
		add("Msg", func(s *api.Sig) { s.Msg = x })
	}
	for _, args := range [][]api.Term{nil, {null()}, {null(), num(5)}, {num(4), null()}, {null(), num(4), num(4)}, {list(null(), null()), num(4)}, ones(2), ones(255)} {
		add("Args", func(s *api.Sig) { s.Args = args })
	}
	return all
}

// sameness: Same tells that of two signals, whichever is ahead.
func sameness(t *testing.T, what string, a, b api.Sig, want bool) {
	t.Helper()
	if dist.Same(a, b) != want || dist.Same(b, a) != want {
		t.Errorf("%s: Same(%s, %s) is %v, %v", what, show(a), show(b), dist.Same(a, b), dist.Same(b, a))
	}
}

// P9.5: a field that a kind names and that differs alone; one that it does not name.
func TestSame(t *testing.T) {
	for _, k := range kinds {
		sameness(t, "the same", full(k), full(k), true)
		sameness(t, "with fields that it does not name, and without", full(k), bare(k), true)
		for _, c := range changes() {
			other := full(k)
			c.do(&other)
			isNamed := slices.Contains(strings.Fields(names[k]), c.field)
			sameness(t, c.field, full(k), other, !isNamed)
			sameness(t, c.field+" of both", other, other, true)
			tells(t, other)
		}
		for _, l := range kinds {
			sameness(t, "kinds", full(k), full(l), k == l)
		}
	}
}

// P9.5: fields that a kind does not name are what they like.
func TestSameBeside(t *testing.T) {
	for _, k := range kinds {
		for _, x := range noTerms() {
			for _, f := range termFields {
				if slices.Contains(strings.Fields(names[k]), f.name) {
					continue
				}
				other := full(k)
				*f.of(&other) = x
				sameness(t, f.name, full(k), other, true)
				sameness(t, f.name+" of both", other, other, true)
			}
		}
		other := full(k)
		if !strings.Contains(names[k], "Name") {
			other.Name = "\xff"
		}
		if k != api.GSpawn {
			other.Mod, other.Fun, other.Args = "\xff", "\xff", []api.Term{{}, {}}
		}
		if k != api.GUnlink && k != api.GUnlinkAck {
			other.ID = 1 << 31
		}
		sameness(t, "all beside", full(k), other, true)
	}
}

// P9.5: a monitor's What.
func TestSameWhat(t *testing.T) {
	for _, k := range []api.SigKind{api.GMonitor, api.GDemonitor, api.GMonitorExit} {
		a, b := named(k), named(k)
		sameness(t, "the same name", a, b, true)
		sameness(t, "a name and a pid", a, full(k), false)
		b.Name = "y"
		sameness(t, "other names", a, b, false)
		for _, x := range append(terms(), noTerms()...) {
			c := named(k)
			if k == api.GMonitorExit {
				c.From = x
			} else {
				c.To = x
			}
			sameness(t, "a name beside what is no pid", a, c, !isTerm(x, api.KPid))
			c.Name = "y"
			sameness(t, "another name beside what is no pid", a, c, false)
		}
		p, q := full(k), full(k)
		p.Name, q.Name = "x", "y"
		sameness(t, "pids beside other names", p, q, true)
	}
}

// P9.5: what is no signal is not the same, not even with itself.
func TestSameNoSignal(t *testing.T) {
	var none []api.Sig
	for _, k := range append(kinds, noKinds...) {
		s := full(k)
		none = append(none, api.Sig{Kind: k})
		if !slices.Contains(kinds, k) {
			none = append(none, s)
			continue
		}
		for _, do := range []func(*api.Sig){
			func(s *api.Sig) { s.From, s.Name = num(1), "\xff" },
			func(s *api.Sig) { s.To, s.Name = pid("b", 1, 7, 0), "\xff" },
			func(s *api.Sig) { s.Ref = num(1) },
			func(s *api.Sig) { s.Reason, s.ID = api.Term{}, 0 },
			func(s *api.Sig) { s.Msg, s.Args = api.Term{}, ones(256) },
		} {
			other := full(k)
			do(&other)
			if !tell(other).right {
				sameness(t, "one is none", s, other, false)
				none = append(none, other)
			}
		}
	}
	for _, a := range none {
		sameness(t, "no signal", a, a, false)
		sameness(t, "no signal and none", a, api.Sig{}, false)
	}
}

// P9.5: signals whose control message or message is too great to be a term are signals all the same.
func TestSameGreat(t *testing.T) {
	for _, k := range []api.SigKind{api.GExit, api.GExit2, api.GMonitorExit} {
		a, b := full(k), full(k)
		a.Reason, b.Reason = tuple(ones(4095)...), tuple(ones(4095)...)
		sameness(t, "great", a, b, true)
		b.Reason.Args[4094] = num(2)
		sameness(t, "great, the last part", a, b, false)
		b.Reason = tuple(ones(4094)...)
		sameness(t, "great, one less", a, b, false)
		a.Reason, b.Reason = chain(255, num(1)), chain(255, num(1))
		sameness(t, "deep", a, b, true)
		b.Reason = chain(255, num(2))
		sameness(t, "deep, the last part", a, b, false)
	}
	a, b := full(api.GSpawn), full(api.GSpawn)
	a.Args, b.Args = slices.Repeat([]api.Term{tuple(ones(100)...)}, 255), slices.Repeat([]api.Term{tuple(ones(100)...)}, 255)
	sameness(t, "great Args", a, b, true)
	b.Args[254] = tuple(ones(99)...)
	sameness(t, "great Args, the last", a, b, false)
	for _, n := range []int64{api.MaxWire + 1, api.MaxInt, api.MinInt} {
		s := full(api.GSend)
		s.Msg = num(n)
		sameness(t, "what can't be encoded", s, s, true)
		sameness(t, "and what can", s, full(api.GSend), false)
	}
}
