package bif_test

import (
	"math/rand"
	"strings"
	"testing"

	"heddle/api"
)

// edges are ints at and about 0 and the bounds, and such that two of them come to what is just within or just beyond the bounds.
func edges() []api.Term {
	var all []api.Term
	for _, n := range []int64{0, api.MinInt, api.MaxInt, api.MinInt / 2, api.MaxInt / 2, api.MinInt / 3, api.MaxInt / 3, 759250124, -759250124, 1 << 29, -1 << 29, 1 << 30, -1 << 30, 1 << 31, 1 << 32, -1 << 32, 7, 10, -10, 1 << 58} {
		for near := n - 3; near <= n+3; near++ {
			if api.MinInt <= near && near <= api.MaxInt {
				all = append(all, num(near))
			}
		}
	}
	return all
}

// P13.2: the functions of ints, with such ints as each argument.
func TestInts(t *testing.T) {
	for _, a := range edges() {
		for _, name := range []string{"+", "-", "abs", "integer_to_list"} {
			agrees(t, name, a)
		}
		for _, b := range edges() {
			for _, name := range []string{"+", "-", "*", "div", "rem"} {
				agrees(t, name, a, b)
			}
		}
	}
}

// P13.2: ints by chance, of any number of bits.
func TestSomeInts(t *testing.T) {
	r := rand.New(rand.NewSource(13))
	some := func() api.Term {
		n := r.Int63n(1<<59) >> r.Intn(59)
		if r.Intn(2) == 0 {
			n = -n - 1
		}
		return num(n)
	}
	for range 20000 {
		a, b := some(), some()
		for _, name := range []string{"+", "-", "*", "div", "rem"} {
			agrees(t, name, a, b)
		}
	}
}

// P13.2: what ints come to, by numbers worked out by hand.
func TestKnownInts(t *testing.T) {
	text := strings.NewReplacer("MIN", "-576460752303423488", "MAX", "576460752303423487")
	for _, c := range (calls{
		{"+", "[5]", "5"}, {"+", "[-5]", "-5"}, {"+", "[0]", "0"}, {"+", "[MIN]", "MIN"}, {"+", "[MAX]", "MAX"},
		{"-", "[5]", "-5"}, {"-", "[-5]", "5"}, {"-", "[0]", "0"}, {"-", "[MAX]", "-576460752303423487"}, {"-", "[MIN]", "LIMIT"}, {"-", "[-576460752303423487]", "MAX"},
		{"abs", "[5]", "5"}, {"abs", "[-5]", "5"}, {"abs", "[0]", "0"}, {"abs", "[MAX]", "MAX"}, {"abs", "[MIN]", "LIMIT"}, {"abs", "[-576460752303423487]", "MAX"},
		{"+", "[MAX, 0]", "MAX"}, {"+", "[MAX, -1]", "576460752303423486"}, {"+", "[1, MAX]", "LIMIT"}, {"+", "[MAX, MAX]", "LIMIT"}, {"+", "[MIN, MIN]", "LIMIT"}, {"+", "[MIN, -1]", "LIMIT"}, {"+", "[MIN, MAX]", "-1"}, {"+", "[MIN, 1]", "-576460752303423487"}, {"+", "[288230376151711744, 288230376151711743]", "MAX"}, {"+", "[288230376151711744, 288230376151711744]", "LIMIT"}, {"+", "[-288230376151711744, -288230376151711744]", "MIN"}, {"+", "[-288230376151711744, -288230376151711745]", "LIMIT"},
		{"-", "[1, 2]", "-1"}, {"-", "[MIN, 0]", "MIN"}, {"-", "[MIN, 1]", "LIMIT"}, {"-", "[MIN, -1]", "-576460752303423487"}, {"-", "[MAX, -1]", "LIMIT"}, {"-", "[0, MIN]", "LIMIT"}, {"-", "[-1, MIN]", "MAX"}, {"-", "[MIN, MIN]", "0"}, {"-", "[MAX, MIN]", "LIMIT"}, {"-", "[MIN, MAX]", "LIMIT"},
		{"*", "[3, -4]", "-12"}, {"*", "[0, MIN]", "0"}, {"*", "[MIN, 0]", "0"}, {"*", "[MIN, 1]", "MIN"}, {"*", "[1, MAX]", "MAX"}, {"*", "[MIN, -1]", "LIMIT"}, {"*", "[-1, MIN]", "LIMIT"}, {"*", "[MAX, -1]", "-576460752303423487"}, {"*", "[MIN, MIN]", "LIMIT"}, {"*", "[MAX, MAX]", "LIMIT"}, {"*", "[MIN, MAX]", "LIMIT"},
		{"*", "[759250124, 759250124]", "576460750794015376"}, {"*", "[759250125, 759250125]", "LIMIT"}, {"*", "[536870912, 1073741824]", "LIMIT"}, {"*", "[-536870912, 1073741824]", "MIN"}, {"*", "[536870912, -1073741824]", "MIN"}, {"*", "[-536870912, -1073741824]", "LIMIT"}, {"*", "[4294967296, 4294967296]", "LIMIT"}, {"*", "[8589934592, 2147483648]", "LIMIT"}, {"*", "[6442450941, 4294967297]", "LIMIT"}, {"*", "[179951, 3203431780337]", "MAX"}, {"*", "[-3203431780337, -179951]", "MAX"}, {"*", "[179952, 3203431780337]", "LIMIT"}, {"*", "[288230376151711743, 2]", "576460752303423486"}, {"*", "[2, 288230376151711744]", "LIMIT"}, {"*", "[2, -288230376151711744]", "MIN"},
		{"div", "[7, 2]", "3"}, {"div", "[-7, 2]", "-3"}, {"div", "[7, -2]", "-3"}, {"div", "[-7, -2]", "3"}, {"div", "[6, 3]", "2"}, {"div", "[1, 2]", "0"}, {"div", "[-1, 2]", "0"}, {"div", "[0, -5]", "0"}, {"div", "[MIN, -1]", "LIMIT"}, {"div", "[MAX, -1]", "-576460752303423487"}, {"div", "[MIN, 1]", "MIN"}, {"div", "[MIN, 2]", "-288230376151711744"}, {"div", "[MIN, MIN]", "1"}, {"div", "[MAX, MIN]", "0"}, {"div", "[MIN, MAX]", "-1"},
		{"rem", "[7, 2]", "1"}, {"rem", "[-7, 2]", "-1"}, {"rem", "[7, -2]", "1"}, {"rem", "[-7, -2]", "-1"}, {"rem", "[6, 3]", "0"}, {"rem", "[1, 2]", "1"}, {"rem", "[-1, 2]", "-1"}, {"rem", "[0, -5]", "0"}, {"rem", "[MIN, -1]", "0"}, {"rem", "[MAX, MIN]", "MAX"}, {"rem", "[MIN, MAX]", "-1"},
		{"div", "[1, 0]", "BADARITH"}, {"div", "[0, 0]", "BADARITH"}, {"div", "[MIN, 0]", "BADARITH"}, {"div", "[a, 0]", "BADARITH"}, {"rem", "[1, 0]", "BADARITH"}, {"rem", "[0, 0]", "BADARITH"}, {"rem", "[MAX, 0]", "BADARITH"}, {"rem", "[[], 0]", "BADARITH"},
	}) {
		calls{{c.name, text.Replace(c.args), text.Replace(c.want)}}.hold(t)
	}
}

// P13.2: what is no int, as each argument; abs and integer_to_list tell another number than operators.
func TestNoInts(t *testing.T) {
	for _, x := range []string{"a", "'1'", "true", "{}", "{1}", "[]", "[1]", "[1|2]", "<n@h.1.5.0>", "#Ref<n@h.1.1.2.3>"} {
		for _, name := range []string{"+", "-", "*", "div", "rem"} {
			calls{{name, "[" + x + ", 1]", "BADARITH"}, {name, "[1, " + x + "]", "BADARITH"}, {name, "[" + x + ", " + x + "]", "BADARITH"}, {name, "[" + x + ", 0]", "BADARITH"}, {name, "[576460752303423487, " + x + "]", "BADARITH"}}.hold(t)
		}
		calls{{"+", "[" + x + "]", "BADARITH"}, {"-", "[" + x + "]", "BADARITH"}, {"abs", "[" + x + "]", "BADARG"}, {"integer_to_list", "[" + x + "]", "BADARG"}}.hold(t)
	}
}
