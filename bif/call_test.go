package bif_test

import (
	"testing"

	"heddle/api"
	"heddle/bif"
	"heddle/sample"
)

// calls: each line is a name, its arguments as a list, and what the call comes to.
type calls []struct{ name, args, want string }

// hold holds calls, told by texts; a reason stands for its number.
func (l calls) hold(t *testing.T) {
	t.Helper()
	codes := map[string]api.Errno{"BADARITH": api.ErrBadarith, "BADARG": api.ErrBadarg, "LIMIT": api.ErrLimit, "UNDEF": api.ErrUndef}
	for _, c := range l {
		args, _ := elements(read(t, c.args))
		if code, refused := codes[c.want]; refused {
			refuses(t, code, c.name, args...)
		} else {
			comes(t, read(t, c.want), c.name, args...)
		}
	}
}

// The chapter's examples.
func TestExamples(t *testing.T) {
	calls{
		{"+", "[1, 2]", "3"}, {"+", "[1, a]", "BADARITH"}, {"+", "[576460752303423487, 1]", "LIMIT"}, {"div", "[-7, 2]", "-3"}, {"rem", "[-7, 2]", "-1"},
		{"++", "[[1], 2]", "[1|2]"}, {"--", "[[1, 2, 1], [1]]", "[2, 1]"}, {"element", "[3, {a, b}]", "BADARG"}, {"foo", "[]", "UNDEF"},
	}.hold(t)
	_, err := bif.Call("foo")
	if x, ok := bif.Reason(err); !ok || !sample.Same(x, word("undef")) {
		t.Errorf("Reason(%v) = %s, %v", err, show(x), ok)
	}
}

// P13.2: each function with terms of every kind as each of its arguments.
func TestEveryKind(t *testing.T) {
	for _, f := range chapter() {
		rows(kinds(), f.Arity, func(row []api.Term) { agrees(t, f.Name, row...) })
	}
}

// P13.2: booleans, and atoms that are none.
func TestBooleans(t *testing.T) {
	calls{
		{"and", "[true, true]", "true"}, {"and", "[true, false]", "false"}, {"and", "[false, true]", "false"}, {"and", "[false, false]", "false"},
		{"or", "[true, true]", "true"}, {"or", "[true, false]", "true"}, {"or", "[false, true]", "true"}, {"or", "[false, false]", "false"},
		{"xor", "[true, true]", "false"}, {"xor", "[true, false]", "true"}, {"xor", "[false, true]", "true"}, {"xor", "[false, false]", "false"},
		{"not", "[true]", "false"}, {"not", "[false]", "true"},
		{"is_boolean", "[true]", "true"}, {"is_boolean", "[false]", "true"},
	}.hold(t)
	for _, x := range []string{"tru", "truee", "'True'", "'TRUE'", "''", "'true '", "'false\\x00'", "fals", "undefined", "1", "0", "[]", "[true]", "{true}", "<n@h.1.5.0>", "#Ref<n@h.1.1.2.3>"} {
		calls{
			{"and", "[false, " + x + "]", "BADARG"}, {"and", "[" + x + ", false]", "BADARG"}, {"and", "[" + x + "," + x + "]", "BADARG"},
			{"or", "[true, " + x + "]", "BADARG"}, {"or", "[" + x + ", true]", "BADARG"},
			{"xor", "[true, " + x + "]", "BADARG"}, {"xor", "[" + x + ", true]", "BADARG"}, {"xor", "[" + x + "," + x + "]", "BADARG"},
			{"not", "[" + x + "]", "BADARG"}, {"is_boolean", "[" + x + "]", "false"},
		}.hold(t)
	}
}

// line is terms that rise.
func line() []api.Term {
	return []api.Term{
		num(api.MinInt), num(-2), num(-1), num(0), num(1), num(api.MaxInt),
		word(""), word("a"), word("aa"), word("b"), word("é"),
		ref("m@h", 9, 9, 9, 9), ref("n@h", 1, 1, 2, 3), ref("n@h", 1, 1, 2, 4), ref("n@h", 2, 0, 0, 0), pid("m@h", 9, 9, 9), pid("n@h", 1, 1, 0), pid("n@h", 1, 1, 1),
		tuple(), tuple(num(9)), tuple(word("a")), tuple(num(1), num(2)), tuple(num(1), word("a")),
		null(), list(num(1), num(2)), proper(num(1)), list(num(1), num(2), num(3)), proper(num(1), num(2)), proper(num(1), num(3)), proper(num(2)), proper(proper(num(1))),
	}
}

// P13.2, P13.5: each comparison, max and min of any two terms of a line: of equal ones, of one kind, of two.
func TestComparisons(t *testing.T) {
	for i, a := range line() {
		for j, b := range line() {
			for name, want := range map[string]bool{"==": i == j, "=:=": i == j, "/=": i != j, "=/=": i != j, "=<": i <= j, "<": i < j, ">=": i >= j, ">": i > j} {
				comes(t, yes(want).t, name, a, b)
			}
			comes(t, line()[max(i, j)], "max", a, b)
			comes(t, line()[min(i, j)], "min", a, b)
		}
	}
}

// P13.2: elements of tuples, from 0 to one more than there are, and by what is no int.
func TestPlaces(t *testing.T) {
	for size := range 6 {
		var row []api.Term
		for i := range size {
			row = append(row, tuple(num(int64(i))))
		}
		for n := int64(-1); n <= int64(size)+2; n++ {
			if n < 1 || n > int64(size) {
				refuses(t, api.ErrBadarg, "element", num(n), tuple(row...))
				refuses(t, api.ErrBadarg, "setelement", num(n), tuple(row...), word("x"))
				continue
			}
			comes(t, row[n-1], "element", num(n), tuple(row...))
			other := append([]api.Term{}, row...)
			other[n-1] = list(word("x"), word("y"))
			comes(t, tuple(other...), "setelement", num(n), tuple(row...), list(word("x"), word("y")))
		}
	}
	// Whose lowest bits would be a place.
	for _, n := range []int64{api.MinInt, api.MaxInt, 1<<32 + 1, -1<<32 + 1, 1<<16 + 1, 257, -255} {
		refuses(t, api.ErrBadarg, "element", num(n), tuple(num(1), num(2)))
		refuses(t, api.ErrBadarg, "setelement", num(n), tuple(num(1), num(2)), num(3))
	}
	for _, n := range []string{"a", "'1'", "{1}", "[1]", "[]", "[1|1]", "<n@h.1.1.1>", "#Ref<n@h.1.1.1.1>"} {
		calls{{"element", "[" + n + ", {a, b}]", "BADARG"}, {"setelement", "[" + n + ", {a, b}, c]", "BADARG"}}.hold(t)
	}
	for _, x := range []string{"a", "1", "[]", "[a, b]", "[a|b]", "<n@h.1.1.1>", "#Ref<n@h.1.1.1.1>"} {
		calls{{"element", "[1, " + x + "]", "BADARG"}, {"setelement", "[1, " + x + ", c]", "BADARG"}, {"tuple_size", "[" + x + "]", "BADARG"}, {"tuple_to_list", "[" + x + "]", "BADARG"}}.hold(t)
	}
	calls{
		{"tuple_size", "[{}]", "0"}, {"tuple_size", "[{a}]", "1"}, {"tuple_size", "[{a, {b, c}, [d]}]", "3"},
		{"tuple_to_list", "[{}]", "[]"}, {"tuple_to_list", "[{a}]", "[a]"}, {"tuple_to_list", "[{a, {b, c}, [d], []}]", "[a, {b, c}, [d], []]"},
		{"setelement", "[2, {a, b, c}, {}]", "{a, {}, c}"}, {"setelement", "[1, {a}, a]", "{a}"},
	}.hold(t)
}

// P13.2: what a term is, and a process's node.
func TestKinds(t *testing.T) {
	for _, c := range []struct{ text, is string }{
		{"0", "is_integer"}, {"-5", "is_integer"}, {"a", "is_atom"}, {"''", "is_atom"}, {"{}", "is_tuple"}, {"{1}", "is_tuple"},
		{"[]", "is_list"}, {"[1]", "is_list"}, {"[1|2]", "is_list"}, {"<n@h.1.5.0>", "is_pid"}, {"#Ref<n@h.1.1.2.3>", "is_reference"},
	} {
		for _, name := range []string{"is_atom", "is_integer", "is_list", "is_pid", "is_reference", "is_tuple"} {
			comes(t, yes(name == c.is).t, name, read(t, c.text))
		}
		if c.is != "is_pid" && c.is != "is_reference" {
			refuses(t, api.ErrBadarg, "node", read(t, c.text))
		}
	}
	comes(t, word("true"), "is_atom", word("true"))
	for _, name := range []string{"n@h", "a@b", "A-b_0@h.1.2.x-y", "n234567890123456789012345678901@h234567890123456789012345678901z"} {
		comes(t, word(name), "node", pid(name, 1, 5, 0))
		comes(t, word(name), "node", pid(name, 0, 0, 0))
		comes(t, word(name), "node", ref(name, 1<<32-1, 1, 2, 3))
	}
}
