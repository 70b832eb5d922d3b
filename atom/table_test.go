package atom_test

import (
	"fmt"
	"math"
	"strconv"
	"strings"
	"testing"

	"heddle/api"
	"heddle/atom"
)

const tableLimit = 1 << 20

func newTable(t *testing.T, limit int) *atom.Table {
	t.Helper()
	x, err := atom.New(limit)
	if x == nil || err != nil {
		t.Fatalf("New(%d) = %v, %v", limit, x, err)
	}
	return x
}

// puts: Put answers that number.
func puts(t *testing.T, x *atom.Table, s string, want int) {
	t.Helper()
	if n, err := x.Put(s); n != want || err != nil {
		t.Errorf("Put(%.20q) = %d, %v, want %d", s, n, err, want)
	}
}

// putRefused: Put refuses, and the table stays as it was.
func putRefused(t *testing.T, x *atom.Table, s string, code api.Errno, at int) {
	t.Helper()
	length, free := x.Len(), x.Free()
	_, known := x.Find(s)
	n, err := x.Put(s)
	refused(t, fmt.Sprintf("Put(%.20q)", s), err, code, at)
	if n != 0 {
		t.Errorf("Put(%.20q) answers %d beside its error", s, n)
	}
	if _, now := x.Find(s); x.Len() != length || x.Free() != free || now != known {
		t.Errorf("Put(%.20q) was refused, and the table has changed", s)
	}
}

// holds: the table has just these atoms, in the order of their numbers.
func holds(t *testing.T, x *atom.Table, limit int, atoms ...string) {
	t.Helper()
	if x.Len() != len(atoms) || x.Free() != limit-len(atoms) {
		t.Errorf("Len %d, Free %d, want %d, %d", x.Len(), x.Free(), len(atoms), limit-len(atoms))
	}
	for i, a := range atoms {
		if n, ok := x.Find(a); n != i || !ok {
			t.Errorf("Find(%.20q) = %d, %v, want %d", a, n, ok, i)
		}
		if s, err := x.Text(i); s != a || err != nil {
			t.Errorf("Text(%d) = %.20q, %v, want %.20q", i, s, err, a)
		}
	}
	for _, n := range []int{-1, len(atoms), len(atoms) + 1, limit, math.MinInt, math.MaxInt} {
		if n >= 0 && n < len(atoms) {
			continue
		}
		s, err := x.Text(n)
		refused(t, fmt.Sprintf("Text(%d)", n), err, api.ErrRange, 0)
		if s != "" {
			t.Errorf("Text(%d) answers %q beside its error", n, s)
		}
	}
}

// P1.6: which limits may be.
func TestNewLimits(t *testing.T) {
	for _, limit := range []int{0, 1, 2, tableLimit - 1, tableLimit} {
		holds(t, newTable(t, limit), limit)
	}
	for _, limit := range []int{-1, tableLimit + 1, math.MinInt, math.MaxInt} {
		x, err := atom.New(limit)
		refused(t, fmt.Sprintf("New(%d)", limit), err, api.ErrArg, 0)
		if x != nil {
			t.Errorf("New(%d) answers a table beside its error", limit)
		}
	}
}

// P1.6
func TestTable(t *testing.T) {
	x := newTable(t, 4)
	puts(t, x, "b", 0)
	puts(t, x, "", 1)
	puts(t, x, "b", 0)
	puts(t, x, "end", 2)
	holds(t, x, 4, "b", "", "end")
	long := strings.Repeat("é", 127) + "x"
	puts(t, x, long, 3)
	holds(t, x, 4, "b", "", "end", long)
	for i, s := range []string{"b", "", "end", long} {
		puts(t, x, s, i) // a full table still knows its own
	}
	holds(t, x, 4, "b", "", "end", long)
	for _, s := range []string{"c", "B", "b ", "'b'", "\xff", long + "x"} {
		if n, ok := x.Find(s); n != 0 || ok {
			t.Errorf("Find(%.20q) = %d, %v", s, n, ok)
		}
	}
}

// P1.6: which of Put's errors comes first.
func TestPutRefuses(t *testing.T) {
	for _, limit := range []int{0, 1, 2} {
		x := newTable(t, limit)
		if limit > 0 {
			puts(t, x, "a", 0)
		}
		putRefused(t, x, strings.Repeat("x", api.MaxAtom+1), api.ErrLong, 0)
		putRefused(t, x, "\xff"+strings.Repeat("x", api.MaxAtom), api.ErrLong, 0)
		putRefused(t, x, "ab\xff", api.ErrUTF, 2)
		putRefused(t, x, "é\xed\xa0\x80", api.ErrUTF, 2)
		putRefused(t, x, "\xc0\x80", api.ErrUTF, 0)
		if limit < 2 {
			putRefused(t, x, "b", api.ErrMany, 0)
			putRefused(t, x, "", api.ErrMany, 0)
		} else {
			puts(t, x, "b", 1)
		}
	}
	var none *atom.Table
	putRefused(t, none, "\xff", api.ErrZero, 0)
	putRefused(t, none, strings.Repeat("x", api.MaxAtom+1), api.ErrZero, 0)
}

// P1.6: a table of 2^20 atoms, and one more.
func TestTableFull(t *testing.T) {
	x := newTable(t, tableLimit)
	for i := range tableLimit {
		if n, err := x.Put(strconv.Itoa(i)); n != i || err != nil {
			t.Fatalf("Put of atom %d = %d, %v", i, n, err)
		}
	}
	if x.Len() != tableLimit || x.Free() != 0 {
		t.Errorf("Len %d, Free %d", x.Len(), x.Free())
	}
	putRefused(t, x, "one more", api.ErrMany, 0)
	for _, i := range []int{0, 1, 12345, tableLimit - 1} {
		puts(t, x, strconv.Itoa(i), i)
		if s, err := x.Text(i); s != strconv.Itoa(i) || err != nil {
			t.Errorf("Text(%d) = %q, %v", i, s, err)
		}
	}
	_, err := x.Text(tableLimit)
	refused(t, "Text one past the last", err, api.ErrRange, 0)
}

// P1.6, rule 3: tables that nobody made.
func TestTableNobodyMade(t *testing.T) {
	made := newTable(t, 8)
	puts(t, made, "a", 0)
	copied, emptied := *made, newTable(t, 8)
	*emptied = atom.Table{}
	for what, x := range map[string]*atom.Table{"nil": nil, "zero": {}, "copied": &copied, "emptied": emptied} {
		for _, s := range []string{"a", "", "\xff"} {
			n, err := x.Put(s)
			refused(t, fmt.Sprintf("Put(%q) of a table that is %s", s, what), err, api.ErrZero, 0)
			if found, ok := x.Find(s); n != 0 || found != 0 || ok {
				t.Errorf("%s: Put(%q) = %d, Find = %d, %v", what, s, n, found, ok)
			}
		}
		for _, n := range []int{-1, 0, 1} {
			s, err := x.Text(n)
			refused(t, fmt.Sprintf("Text(%d) of a table that is %s", n, what), err, api.ErrZero, 0)
			if s != "" {
				t.Errorf("%s: Text(%d) = %q", what, n, s)
			}
		}
		if x.Len() != 0 || x.Free() != 0 {
			t.Errorf("%s: Len %d, Free %d", what, x.Len(), x.Free())
		}
	}
	holds(t, made, 8, "a")
}

// P1.6, rule 5: two tables know nothing of one another.
func TestTablesApart(t *testing.T) {
	x, y := newTable(t, 2), newTable(t, 3)
	puts(t, x, "a", 0)
	puts(t, x, "b", 1)
	puts(t, y, "b", 0)
	holds(t, x, 2, "a", "b")
	holds(t, y, 3, "b")
}
