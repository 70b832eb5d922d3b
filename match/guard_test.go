package match_test

import (
	"testing"

	"heddle/api"
)

// guards: each line is a guard of the variables A, B, C, D, an environment, and whether it holds: "yes", "no", or an unset slot.
type guards []struct{ guard, env, want string }

func (l guards) hold(t *testing.T) {
	t.Helper()
	for _, c := range l {
		p := asking(t, c.guard)
		env := row(t, c.env)
		holds, err := p.Guard(p.nodes(api.NGuard)[0], env, who())
		got := told(err, map[bool]string{true: "yes", false: "no"}[holds])
		if got != c.want || holds && err != nil {
			t.Errorf("%s, env %s: %s, %v; want %s", c.guard, c.env, got, err, c.want)
		}
	}
}

// P14.4: one row of tests, all of which are true, or not.
func TestGuardRow(t *testing.T) {
	guards{
		{"true", "", "yes"}, {"false", "", "no"}, {"a", "", "no"}, {"'True'", "", "no"}, {"1", "", "no"}, {"[]", "", "no"}, {"{true}", "", "no"}, {"[true]", "", "no"}, {"self()", "", "no"}, {"hd(1)", "", "no"}, {"A", "true", "yes"}, {"A", "1", "no"}, {"A", "'true '", "no"},
		{"true, true", "", "yes"}, {"true, false", "", "no"}, {"false, true", "", "no"}, {"true, hd(1)", "", "no"}, {"hd(1), true", "", "no"}, {"true, true, true", "", "yes"}, {"true, true, 1", "", "no"}, {"A > 1, A < 3", "2", "yes"}, {"A > 1, A < 3", "3", "no"}, {"A > 1, A < 3", "1", "no"}, {"is_pid(self()), node() == 'n@h'", "", "yes"},
	}.hold(t)
}

// P14.4: several rows: the first, a later one, and none of which holds; tests that fail end their row alone.
func TestGuardRows(t *testing.T) {
	guards{
		{"true; true", "", "yes"}, {"true; false", "", "yes"}, {"false; true", "", "yes"}, {"false; false", "", "no"}, {"hd(1); true", "", "yes"}, {"true; hd(1)", "", "yes"}, {"hd(1); hd(1)", "", "no"}, {"1; a; true", "", "yes"}, {"1; a; {}", "", "no"},
		{"true, false; false, true", "", "no"}, {"true, false; true, true", "", "yes"}, {"true, true; false", "", "yes"}, {"true, hd(1); true", "", "yes"}, {"hd(1), true; false", "", "no"}, {"false; false; false; true", "", "yes"}, {"false, true; hd(1), true; A == 1, A < 2; false", "1", "yes"}, {"A > 1, A < 3; A == 7", "7", "yes"}, {"A > 1, A < 3; A == 7", "6", "no"},
	}.hold(t)
}

// P14.4: unset slots count where the guard comes to them, and not behind what decides.
func TestGuardUnset(t *testing.T) {
	guards{
		{"A", "", "slot 0"}, {"B == 1", "1", "slot 1"}, {"true; A", "", "yes"}, {"A; true", "", "slot 0"}, {"false; A", "", "slot 0"}, {"hd(1); A", "", "slot 0"}, {"false, A", "", "no"}, {"hd(1), A", "", "no"}, {"1, A", "", "no"}, {"true, A", "", "slot 0"}, {"A, false", "", "slot 0"}, {"A, hd(1)", "", "slot 0"},
		{"false, A; true", "", "yes"}, {"false, A; B", "", "slot 1"}, {"true, true; A", "", "yes"}, {"true, false; true; A", "", "yes"}, {"true, A; true", "", "slot 0"}, {"false; false, A; true, B; true", "1; -; 1", "slot 1"}, {"A == 2; B == 1", "1", "slot 1"}, {"A == 1; B == 1", "1", "yes"}, {"hd(1) == A; true", "", "yes"}, {"A == hd(1); true", "", "slot 0"},
		{"false andalso A; true", "", "yes"}, {"true orelse A", "", "yes"}, {"true andalso A; true", "", "slot 0"}, {"D", "1; 2; 3; -; 4", "slot 3"},
	}.hold(t)
}
