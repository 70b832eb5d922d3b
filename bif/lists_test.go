package bif_test

import (
	"math/rand"
	"slices"
	"testing"

	"heddle/api"
	"heddle/bif"
	"heddle/sample"
)

// P13.2: lists that are proper, that are not, the empty one, and what is no list.
func TestLists(t *testing.T) {
	calls{
		{"++", "[[], []]", "[]"}, {"++", "[[], [1]]", "[1]"}, {"++", "[[1], []]", "[1]"}, {"++", "[[1, 2], [3, 4]]", "[1, 2, 3, 4]"}, {"++", "[[1, 2], [3|4]]", "[1, 2, 3|4]"}, {"++", "[[1, 2], 3]", "[1, 2|3]"}, {"++", "[[], 3]", "3"}, {"++", "[[], a]", "a"}, {"++", "[[], [1|2]]", "[1|2]"}, {"++", "[[1], {2}]", "[1|{2}]"}, {"++", "[[[1]], [[2]]]", "[[1], [2]]"}, {"++", "[[[]], []]", "[[]]"}, {"++", "[[a], <n@h.1.2.3>]", "[a|<n@h.1.2.3>]"},
		{"--", "[[], []]", "[]"}, {"--", "[[], [1]]", "[]"}, {"--", "[[1], []]", "[1]"}, {"--", "[[1], [1]]", "[]"}, {"--", "[[1], [2]]", "[1]"}, {"--", "[[1, 1, 1], [1]]", "[1, 1]"}, {"--", "[[1, 1, 1], [1, 1]]", "[1]"}, {"--", "[[1, 1], [1, 1, 1]]", "[]"}, {"--", "[[1, 2, 1, 2], [2, 1]]", "[1, 2]"}, {"--", "[[1, 2, 3, 1, 2, 3], [2, 2]]", "[1, 3, 1, 3]"}, {"--", "[[1, 2, 3], [4, 2, 5]]", "[1, 3]"}, {"--", "[[a, b, a, c, a], [a, c, a]]", "[b, a]"},
		{"--", "[[{1}, [1], [1|1]], [1]]", "[{1}, [1], [1|1]]"}, {"--", "[[1, 2], [{1}, [2]]]", "[1, 2]"}, {"--", "[[{1}, [1], [1|1], 1], [[1|1], {1}]]", "[[1], 1]"}, {"--", "[[a, 'A', '', 'a b'], ['', 'A']]", "[a, 'a b']"}, {"--", "[[[], {}], [[]]]", "[{}]"}, {"--", "[[[]], [{}]]", "[[]]"}, {"--", "[['1', 1], [1]]", "['1']"}, {"--", "[['[]', [], '{}', {}], [[], {}]]", "['[]', '{}']"}, {"--", "[[{a,b}, {'a,b'}], [{'a,b'}]]", "[{a,b}]"},
		{"--", "[[<n@h.1.5.0>, <n@h.2.5.0>, <m@h.1.5.0>, <n@h.1.5.1>, #Ref<n@h.1.5.0.0>], [<n@h.1.5.0>]]", "[<n@h.2.5.0>, <m@h.1.5.0>, <n@h.1.5.1>, #Ref<n@h.1.5.0.0>]"}, {"--", "[['<n@h.1.5.0>'], [<n@h.1.5.0>]]", "['<n@h.1.5.0>']"},
		{"hd", "[[1]]", "1"}, {"hd", "[[1, 2]]", "1"}, {"hd", "[[1|2]]", "1"}, {"hd", "[[[1, 2], 3]]", "[1, 2]"}, {"tl", "[[1]]", "[]"}, {"tl", "[[1, 2]]", "[2]"}, {"tl", "[[1|2]]", "2"}, {"tl", "[[1, 2|3]]", "[2|3]"}, {"tl", "[[1, [2]]]", "[[2]]"}, {"hd", "[[]]", "BADARG"}, {"tl", "[[]]", "BADARG"},
		{"length", "[[]]", "0"}, {"length", "[[a]]", "1"}, {"length", "[[[1, 2, 3], 4]]", "2"}, {"length", "[[[]]]", "1"},
		{"list_to_tuple", "[[]]", "{}"}, {"list_to_tuple", "[[a]]", "{a}"}, {"list_to_tuple", "[[[1, 2], {3}, []]]", "{[1, 2], {3}, []}"},
	}.hold(t)
	for _, x := range []string{"[1|2]", "[1, 2|a]", "[1|{}]", "a", "1", "{}", "{[]}", "'[]'", "<n@h.1.5.0>", "#Ref<n@h.1.1.2.3>"} {
		calls{
			{"++", "[" + x + ", []]", "BADARG"}, {"++", "[" + x + ", [1]]", "BADARG"}, {"++", "[" + x + ", " + x + "]", "BADARG"},
			{"--", "[" + x + ", []]", "BADARG"}, {"--", "[[], " + x + "]", "BADARG"}, {"--", "[" + x + ", [1]]", "BADARG"}, {"--", "[[1], " + x + "]", "BADARG"}, {"--", "[" + x + ", " + x + "]", "BADARG"},
			{"length", "[" + x + "]", "BADARG"}, {"list_to_tuple", "[" + x + "]", "BADARG"}, {"list_to_integer", "[" + x + "]", "BADARG"}, {"list_to_atom", "[" + x + "]", "BADARG"},
		}.hold(t)
	}
	for _, x := range []string{"a", "1", "{}", "{1, 2}", "<n@h.1.5.0>", "#Ref<n@h.1.1.2.3>"} {
		calls{{"hd", "[" + x + "]", "BADARG"}, {"tl", "[" + x + "]", "BADARG"}}.hold(t)
	}
}

// P13.2: the lists that one takes away from another, all of up to four elements of two kinds from all of up to three of three.
func TestTakeAway(t *testing.T) {
	for n := range 5 {
		rows([]api.Term{num(1), proper(num(1))}, n, func(row []api.Term) {
			for m := range 4 {
				rows([]api.Term{num(1), proper(num(1)), num(2)}, m, func(away []api.Term) { agrees(t, "--", proper(row...), proper(away...)) })
			}
		})
	}
}

// P13.2: lists by chance, whose elements are there again and again.
func TestSomeLists(t *testing.T) {
	r := rand.New(rand.NewSource(31))
	few := []api.Term{num(1), num(2), word("a"), word("b c"), tuple(num(1)), proper(num(1)), list(num(1), num(2)), pid("n@h", 1, 5, 0), ref("n@h", 1, 5, 0, 0), null()}
	some := func() api.Term {
		var row []api.Term
		for range r.Intn(12) {
			row = append(row, few[r.Intn(len(few))])
		}
		return proper(row...)
	}
	for range 3000 {
		a, b := some(), some()
		for _, name := range []string{"++", "--"} {
			agrees(t, name, a, b)
		}
		for _, name := range []string{"hd", "tl", "length", "list_to_tuple"} {
			agrees(t, name, a)
		}
	}
}

// size: a call comes to a term of so many parts and so deep.
func size(t *testing.T, parts, depth int, name string, args ...api.Term) {
	t.Helper()
	agrees(t, name, args...)
	got, err := bif.Call(name, args...)
	if n, d := extent(got); n != parts || d != depth || err != nil {
		t.Errorf("%s(%s) has %d parts, depth %d, %v; want %d, %d", name, show(args...), n, d, err, parts, depth)
	}
}

// tooGreat: a call is beyond a limit.
func tooGreat(t *testing.T, name string, args ...api.Term) {
	t.Helper()
	agrees(t, name, args...)
	refuses(t, api.ErrLimit, name, args...)
}

// P13.2: lists that ++ makes, at and beyond MaxSize parts and MaxDepth.
func TestJoinLimits(t *testing.T) {
	many := func(n int) api.Term { return proper(ones(n)...) }
	size(t, 4096, 2, "++", many(2047), many(2047))
	tooGreat(t, "++", many(2048), many(2047))
	tooGreat(t, "++", many(2047), many(2048))
	tooGreat(t, "++", many(4094), many(4094))
	size(t, 4096, 2, "++", many(4094), null())
	size(t, 4096, 2, "++", null(), many(4094))
	tooGreat(t, "++", many(4094), many(1))
	tooGreat(t, "++", many(1), many(4094))
	size(t, 4096, 2, "++", many(4094), word("tail"))
	size(t, 4096, 2, "++", many(4093), list(num(1), num(2)))
	tooGreat(t, "++", many(4094), list(num(1), num(2)))
	size(t, 4096, 3, "++", many(4093), tuple(num(1)))
	tooGreat(t, "++", many(4094), tuple(num(1)))
	size(t, 4096, 3, "++", many(1), tuple(ones(4093)...))
	tooGreat(t, "++", many(1), tuple(ones(4094)...))
	size(t, 4096, 2, "++", null(), tuple(ones(4095)...))

	deep := chain(254, num(1)) // 255 deep, 256 in a list
	deeper := tuple(deep)
	size(t, 258, 256, "++", proper(num(1)), list(deep, null()))
	size(t, 257, 256, "++", proper(num(1)), deep)
	tooGreat(t, "++", proper(num(1)), deeper)
	size(t, 256, 256, "++", null(), deeper)
	size(t, 512, 256, "++", proper(deep), proper(deep))
	size(t, 511, 256, "++", proper(deep), deep)
	size(t, 257, 256, "++", proper(deep), word("tail"))
	refuses(t, api.ErrBadarg, "++", list(deep, num(1)), deeper)
}

// P13.2: the other functions that make lists and tuples, at and beyond the limits.
func TestMakeLimits(t *testing.T) {
	size(t, 4096, 2, "tuple_to_list", tuple(ones(4094)...))
	tooGreat(t, "tuple_to_list", tuple(ones(4095)...))
	size(t, 4096, 3, "tuple_to_list", tuple(tuple(ones(4093)...)))
	tooGreat(t, "tuple_to_list", tuple(tuple(ones(4094)...)))
	size(t, 257, 256, "tuple_to_list", chain(255, num(1)))
	size(t, 4095, 2, "list_to_tuple", proper(ones(4094)...))
	size(t, 256, 256, "list_to_tuple", proper(chain(254, num(1))))
	comes(t, num(4094), "length", proper(ones(4094)...))
	refuses(t, api.ErrBadarg, "length", list(ones(4095)...))
	comes(t, num(4095), "tuple_size", tuple(ones(4095)...))

	size(t, 4096, 3, "setelement", num(1), tuple(num(1), num(2)), tuple(ones(4093)...))
	tooGreat(t, "setelement", num(2), tuple(num(1), num(2)), tuple(ones(4094)...))
	size(t, 4096, 2, "setelement", num(4095), tuple(ones(4095)...), word("x"))
	tooGreat(t, "setelement", num(4095), tuple(ones(4095)...), tuple(num(1)))
	size(t, 4096, 3, "setelement", num(1), tuple(tuple(num(1)), tuple(ones(4092)...)), tuple(num(2)))
	tooGreat(t, "setelement", num(1), tuple(tuple(num(1)), tuple(ones(4092)...)), tuple(num(2), num(3)))
	size(t, 256, 256, "setelement", num(1), tuple(num(1)), chain(254, num(1)))
	tooGreat(t, "setelement", num(1), tuple(num(1)), chain(255, num(1)))
	tooGreat(t, "setelement", num(2), tuple(num(1), num(2)), chain(255, num(1)))
	refuses(t, api.ErrBadarg, "setelement", num(2), tuple(num(1)), chain(255, num(1)))
	refuses(t, api.ErrBadarg, "setelement", num(1), num(1), tuple(ones(4095)...))
	// What is put away makes room.
	size(t, 4096, 3, "setelement", num(1), tuple(tuple(ones(4094)...)), tuple(ones(4094)...))
	size(t, 2, 2, "setelement", num(1), chain(255, num(1)), num(1))

	for _, great := range []api.Term{tuple(ones(4095)...), list(ones(4095)...), chain(255, num(1))} {
		comes(t, great, "max", great, great)
		comes(t, great, "max", great, num(1))
		comes(t, num(1), "min", great, num(1))
		comes(t, word("true"), "=:=", great, great)
	}
	comes(t, chain(254, num(1)), "element", num(1), chain(255, num(1)))
	comes(t, chain(254, num(1)), "hd", proper(chain(254, num(1))))
	size(t, 4095, 2, "tl", proper(ones(4094)...))
}

// P13.2: great lists that are taken away from great ones.
func TestTakeAwayGreat(t *testing.T) {
	var up, down, texts []api.Term
	for i := range 4094 {
		up, down = append(up, num(int64(i))), append(down, num(int64(-i-1)))
		texts = append(texts, word(string(slices.Repeat([]byte{'\''}, 250))+string(rune(i+1))))
	}
	comes(t, proper(up...), "--", proper(up...), proper(down...))
	comes(t, proper(texts...), "--", proper(texts...), proper(up...))
	for _, row := range [][]api.Term{up, texts, ones(4094)} {
		back := slices.Clone(row)
		slices.Reverse(back)
		comes(t, null(), "--", proper(row...), proper(back...))
		comes(t, proper(row[1:]...), "--", proper(row...), proper(row[0]))
		comes(t, proper(row[4093]), "--", proper(row...), proper(back[1:]...))
	}
	great := tuple(ones(2000)...)
	other := tuple(append(ones(1999), num(2))...)
	comes(t, proper(other), "--", proper(great, other), proper(great))
	comes(t, proper(great), "--", proper(great, other), proper(other))
	if got, err := bif.Call("--", proper(chain(254, num(1))), proper(chain(254, num(2)))); err != nil || !sample.Same(got, proper(chain(254, num(1)))) {
		t.Errorf("%s, %v", show(got), err)
	}
}
