package etf_test

import (
	"errors"
	"math/rand"
	"slices"
	"strconv"
	"testing"

	"heddle/api"
	"heddle/atom"
	"heddle/etf"
	"heddle/sample"
)

// tableOf: a table for so many atoms, with these in it.
func tableOf(t *testing.T, limit int, atoms ...string) *atom.Table {
	t.Helper()
	x, err := atom.New(limit)
	if err != nil {
		t.Fatal(err)
	}
	for _, a := range atoms {
		if _, err := x.Put(a); err != nil {
			t.Fatalf("Put(%q): %v", a, err)
		}
	}
	return x
}

// holds: the table has just these atoms, in the order of their numbers.
func holds(t *testing.T, x *atom.Table, limit int, atoms ...string) {
	t.Helper()
	var got []string
	for i := range x.Len() {
		s, _ := x.Text(i)
		got = append(got, s)
	}
	if !slices.Equal(got, atoms) || x.Free() != limit-len(atoms) {
		t.Errorf("a table has %.200q and room for %d, want %.200q and %d", got, x.Free(), atoms, limit-len(atoms))
	}
}

// calls: Decode and Whole as one kind of function.
func calls() map[string]func([]byte, *atom.Table) (api.Term, error) {
	return map[string]func([]byte, *atom.Table) (api.Term, error){
		"Whole": etf.Whole,
		"Decode": func(b []byte, atoms *atom.Table) (api.Term, error) {
			x, n, err := etf.Decode(b, atoms)
			if (err != nil) != (n == 0) {
				return api.Term{}, errors.New("Decode tells " + strconv.Itoa(n) + " bytes")
			}
			return x, err
		},
	}
}

// many is a term with atoms at all places where they may stand, some of them twice.
func many() api.Term {
	return tuple(symbol("z"), pid("n@h", 1, 2, 3), list(symbol("b"), symbol("z"), ref("m@h", 1, 2, 3, 4), symbol("c")), symbol("n@h"), symbol(""), tuple(symbol("b"), symbol("a"), pid("m@h", 1, 2, 3)))
}

var manyAtoms = []string{"z", "n@h", "b", "m@h", "c", "", "a"}

// P4.2: which atoms are put into a table, and in which order.
func TestTableTakesAtoms(t *testing.T) {
	for what, call := range calls() {
		for _, b := range [][]byte{encoded(many(), never), encoded(many(), func() bool { return true })} {
			for _, limit := range []int{7, 8, 100, 1 << 20} {
				table := tableOf(t, limit)
				x, err := call(b, table)
				if err != nil || !same(x, many()) {
					t.Errorf("%s: %v, %v", what, x, err)
				}
				holds(t, table, limit, manyAtoms...)
				if x, err = call(b, table); err != nil || !same(x, many()) {
					t.Errorf("%s once more: %v, %v", what, x, err)
				}
				holds(t, table, limit, manyAtoms...)
			}
			known := []string{"c", "x", "n@h"}
			table := tableOf(t, 8, known...)
			if x, err := call(b, table); err != nil || !same(x, many()) {
				t.Errorf("%s: %v, %v", what, x, err)
			}
			holds(t, table, 8, "c", "x", "n@h", "z", "b", "m@h", "", "a")
		}
	}
}

// P4.2: tables with too little room stay as they were.
func TestTableFull(t *testing.T) {
	full := func(what string, x api.Term, err error) {
		t.Helper()
		if !isZero(x) || !sample.IsFault(err, fault(0, api.ErrFull)...) || !errors.Is(err, api.ErrFull) {
			t.Errorf("%s: %v, %v, want ErrFull", what, x, err)
		}
	}
	for what, call := range calls() {
		for limit := range 7 {
			table := tableOf(t, limit)
			x, err := call(encoded(many(), never), table)
			full(what, x, err)
			holds(t, table, limit)
		}
		known := []string{"c", "x", "n@h"}
		for limit := 3; limit < 8; limit++ {
			table := tableOf(t, limit, known...)
			x, err := call(encoded(many(), never), table)
			full(what, x, err)
			holds(t, table, limit, known...)
		}
		table := tableOf(t, 2, "a", "b")
		x, err := call(encoded(tuple(symbol("a"), symbol("b"), symbol("a")), never), table)
		if err != nil || len(x.Args) != 3 {
			t.Errorf("%s of atoms that a full table has: %v, %v", what, x, err)
		}
		x, err = call(encoded(tuple(symbol("a"), symbol("c")), never), table)
		full(what, x, err)
		x, err = call(encoded(pid("n@h", 1, 2, 3), never), table)
		full(what, x, err)
		holds(t, table, 2, "a", "b")
		twice := tableOf(t, 1)
		x, err = call(encoded(tuple(symbol("a"), symbol("a"), symbol("a")), never), twice)
		if err != nil || len(x.Args) != 3 {
			t.Errorf("%s of an atom three times: %v, %v", what, x, err)
		}
		holds(t, twice, 1, "a")
	}
}

// P4.2: a table that nobody made has no room, a nil one takes all.
func TestTableNobodyMade(t *testing.T) {
	made := tableOf(t, 8, "a")
	copied := *made
	for what, call := range calls() {
		for _, table := range []*atom.Table{{}, &copied} {
			for _, x := range []api.Term{symbol("a"), symbol(""), pid("n@h", 1, 2, 3), ref("n@h", 1, 2, 3, 4), tuple(num(1), list(symbol("b"), null()))} {
				got, err := call(encoded(x, never), table)
				if !isZero(got) || !sample.IsFault(err, fault(0, api.ErrFull)...) {
					t.Errorf("%s(%v) = %v, %v", what, x, got, err)
				}
			}
			for _, x := range []api.Term{num(1), null(), tuple(), tuple(num(1), list(num(-2), null()))} {
				if got, err := call(encoded(x, never), table); err != nil || !same(got, x) {
					t.Errorf("%s(%v) = %v, %v", what, x, got, err)
				}
			}
			if table.Len() != 0 || table.Free() != 0 {
				t.Errorf("%s: Len %d, Free %d", what, table.Len(), table.Free())
			}
		}
		if got, err := call(encoded(many(), never), nil); err != nil || !same(got, many()) {
			t.Errorf("%s without a table: %v, %v", what, got, err)
		}
	}
	holds(t, made, 8, "a")
}

// P4.2, P4.3: what is ahead of ErrFull, and what is behind it; a refused call leaves the table as it was.
func TestTableWhichError(t *testing.T) {
	b := encoded(tuple(symbol("a"), symbol("b")), never)
	none, room := tableOf(t, 1), tableOf(t, 9, "k")
	if x, _, err := etf.Decode(cat(b, 7), none); !isZero(x) || !sample.IsFault(err, fault(0, api.ErrFull)...) {
		t.Errorf("Decode = %v, %v", x, err)
	}
	if x, err := etf.Whole(cat(b, 7), none); !isZero(x) || !sample.IsFault(err, fault(0, api.ErrFull)...) {
		t.Errorf("Whole = %v, %v", x, err)
	}
	if x, err := etf.Whole(cat(b, 7), room); !isZero(x) || !sample.IsFault(err, fault(len(b), api.ErrRest)...) {
		t.Errorf("Whole = %v, %v", x, err)
	}
	holds(t, room, 9, "k")
	for end := range b {
		for _, table := range []*atom.Table{none, room} {
			_, _, err := etf.Decode(b[:end], table)
			want := fault(0, api.ErrVersion)
			if end > 0 {
				want = expect(b[:end]).faults
			}
			if !sample.IsFault(err, want...) {
				t.Errorf("Decode of %d bytes: %v, want %v", end, err, want)
			}
		}
	}
	bad := cat(131, 104, 2, 119, 1, "a", 119, 1, 255)
	if _, _, err := etf.Decode(bad, none); !errors.Is(err, api.ErrUTF) {
		t.Errorf("Decode = %v, want ErrUTF", err)
	}
	holds(t, none, 1)
	holds(t, room, 9, "k")
	if x, n, err := etf.Decode(cat(b, 7), room); err != nil || n != len(b) || len(x.Args) != 2 {
		t.Errorf("Decode = %v, %d, %v", x, n, err)
	}
	holds(t, room, 9, "k", "a", "b")
}

// P4.2, rule 4: a table does not keep the bytes.
func TestTableKeepsNothing(t *testing.T) {
	b := encoded(tuple(symbol("abc"), pid("n@h", 1, 2, 3)), never)
	table := tableOf(t, 9)
	if _, err := etf.Whole(b, table); err != nil {
		t.Fatal(err)
	}
	for i := range b {
		b[i] = 'x'
	}
	holds(t, table, 9, "abc", "n@h")
}

// P4.2, P4.3: random terms on one table after another, against a list of atoms.
func TestTableRandom(t *testing.T) {
	r := rand.New(rand.NewSource(7))
	for range 300 {
		limit := r.Intn(14)
		table, model := tableOf(t, limit), []string(nil)
		for range 12 {
			x := randomTerm(r, 1+r.Intn(8))
			b := encoded(x, func() bool { return r.Intn(2) == 0 })
			more := slices.Clone(model)
			for _, a := range expect(b).atoms {
				if !slices.Contains(more, a) {
					more = append(more, a)
				}
			}
			rest := r.Intn(4) == 0
			var want []api.Fault
			switch {
			case len(more) > limit:
				want = fault(0, api.ErrFull)
			case rest:
				want = fault(len(b), api.ErrRest)
			}
			if rest {
				b = append(b, 106)
			}
			got, err := etf.Whole(b, table)
			if !sample.IsFault(err, want...) || err == nil && !same(got, x) {
				t.Fatalf("Whole(%v) = %v, %v, want %v", b, got, err, want)
			}
			if err == nil {
				model = more
			}
			holds(t, table, limit, model...)
		}
	}
}
