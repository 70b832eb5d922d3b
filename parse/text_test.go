package parse_test

import (
	"math/rand"
	"slices"
	"strconv"
	"strings"
	"testing"

	"heddle/api"
	"heddle/lex"
	"heddle/parse"
)

// refuses: a text's fault, with those under it.
func refuses(t *testing.T, s string, chain ...api.Fault) {
	t.Helper()
	if nodes, root, err := parse.Text(s); !isRefused(nodes, root, err, chain...) {
		t.Errorf("%s: %d nodes, root %d, %v", cut(strconv.Quote(s)), len(nodes), root, err)
	}
}

// P11.2: each fault of lex under, at its place, with its number; whatever the grammar says, also ahead of it.
func TestTextLex(t *testing.T) {
	const head = "-module(m). f() -> a. "
	for _, c := range []struct {
		s     string
		at    int
		code  api.Errno
		under []api.Fault
	}{
		{"\"", 0, api.ErrByte, nil}, {"a.b", 1, api.ErrByte, nil}, {"#", 0, api.ErrByte, nil}, {"\x80", 0, api.ErrByte, nil}, {"1 ?", 2, api.ErrByte, nil},
		{"1#0", 0, api.ErrNumber, nil}, {"2#12", 0, api.ErrNumber, nil}, {"576460752303423488", 0, api.ErrNumber, nil},
		{"$", 0, api.ErrChar, nil}, {`$\q`, 0, api.ErrChar, nil},
		{"'a", 0, api.ErrQuote, []api.Fault{{Layer: "atom", Code: api.ErrQuote}}},
		{`'a\q'`, 0, api.ErrEscape, []api.Fault{{Layer: "atom", At: 2, Code: api.ErrEscape}}},
		{"'\xff'", 0, api.ErrUTF, []api.Fault{{Layer: "atom", Code: api.ErrUTF}}},
		{strings.Repeat("a", 256), 0, api.ErrLong, []api.Fault{{Layer: "atom", Code: api.ErrLong}}},
		{strings.Repeat("X", 256), 0, api.ErrLong, nil},
	} {
		for _, ahead := range []string{"", " ", head, "-module(m). f() -> 1 < 2 < 3. ", ". . . ", "end end ", "% more\n"} {
			chain := []api.Fault{faulty(len(ahead)+c.at, c.code), {Layer: "lex", At: len(ahead) + c.at, Code: c.code}}
			for _, under := range c.under {
				under.At += len(ahead)
				chain = append(chain, under)
			}
			refuses(t, ahead+c.s, chain...)
		}
	}
	long := api.Fault{Layer: "lex", Code: api.ErrLong}
	refuses(t, strings.Repeat(" ", 65537), faulty(0, api.ErrLong), long)
	refuses(t, head+strings.Repeat(" ", 65537), faulty(0, api.ErrLong), long)
	refuses(t, "? < < <"+strings.Repeat(" ", 65537), faulty(0, api.ErrLong), long)
}

// P11.2: the byte of the token that may not stand there; the length of the text, if it ends too early.
func TestTextSyntax(t *testing.T) {
	for _, c := range []struct {
		s  string
		at int
	}{
		{"", 0}, {" ", 1}, {" \n% all", 7}, {"-", 1}, {"- ", 2}, {"-module(m)", 10}, {"-module(m) % .", 14},
		{"f", 0}, {"  f", 2}, {"-module(X).", 8}, {"-module(m). f() -> 1 < 2 < 3.", 25}, {"-module(m). f() -> 1", 20}, {"-module(m). f() -> 1 ", 21},
		{"-module(m).\nf() ->\n\t% more\n .", 28}, {"-module(m). f() -> 'a b' 'c d'.", 25}, {"-module(m). f() -> '' : f().", 22}, {"-module(m). f() -> a. end", 22},
		{"-module('\xc3\xa4'). X", 15}, {"-module(m). f() -> $\xe2\x82\xac 1.", 24}, {"-module(m). f() -> m:f .", 23},
	} {
		refuses(t, c.s, faulty(c.at, api.ErrSyntax))
	}
}

// P11.2: as Parse of lex's tokens, for the rest: any texts.
func TestTextParse(t *testing.T) {
	r := rand.New(rand.NewSource(11))
	words := vocabulary()
	for range 1500 {
		l, _ := someProgram(r, 1+r.Intn(3))
		if r.Intn(2) == 0 {
			i := r.Intn(len(l))
			l[i] = words[r.Intn(len(words))]
		}
		var s string
		for _, token := range l {
			one, err := lex.Write(token)
			if err == nil {
				s += one + []string{" ", "\n", "  ", " % a\n"}[r.Intn(4)]
			}
		}
		if len(s) > 65536 {
			continue
		}
		asParse(t, s)
	}
	for _, nest := range nests {
		for _, times := range []int{1, 2, 100, 600} {
			s := strings.Repeat(nest.left+" ", times) + "a" + strings.Repeat(" "+nest.right, times)
			if len(s) < 65000 {
				asParse(t, inBody(s))
				asParse(t, inBody(s+" ]"))
			}
		}
	}
	// Five nodes are above the expression.
	read(t, inBody(strings.Repeat("[", 495)+strings.Repeat("]", 495)))
	refuses(t, inBody(strings.Repeat("[", 496)+strings.Repeat("]", 496)), faulty(0, api.ErrNest))
	refuses(t, inBody(strings.Repeat("[", 495)+"a"+strings.Repeat("]", 495)), faulty(0, api.ErrNest))
}

// asParse: Text answers as Parse of the tokens does, at bytes.
func asParse(t *testing.T, s string) {
	t.Helper()
	l := tokensOf(t, s)
	want, one, err := parse.Parse(l)
	got, two, again := parse.Text(s)
	if err == nil {
		if again != nil || one != two || !slices.EqualFunc(want, got, sameNode) {
			t.Fatalf("%s: %d and %d nodes, %v", cut(strconv.Quote(s)), len(want), len(got), again)
		}
		return
	}
	fault := *err.(*api.Fault)
	if fault.Code == api.ErrSyntax {
		fault.At = append(places(l), len(s))[fault.At]
	}
	if !isRefused(got, two, again, fault) {
		t.Fatalf("%s: %v, not %v", cut(strconv.Quote(s)), again, &fault)
	}
}

func places(l []api.Token) []int {
	var all []int
	for _, token := range l {
		all = append(all, token.At)
	}
	return all
}

// sameNode: all fields of two nodes are the same.
func sameNode(a, b api.Node) bool {
	return a.Kind == b.Kind && a.Text == b.Text && a.Mod == b.Mod && a.Int == b.Int && a.At == b.At && slices.Equal(a.Kids, b.Kids)
}

// Rule 4: an answer is new memory, and no list of it shares any with another: what is written over in one is to be seen nowhere else.
func TestAnswersShareNothing(t *testing.T) {
	const s = "-module(m). -export([f/1, g/2]). f(X) when X, 1; 2 -> [1, 2 | {X, m:g(3, 4)}], case X of 1 -> 2; 3 when 4 -> 5, 6 end; f(Y) -> receive 1 -> 2; 3 -> 4 after 5 -> 6 end, try 1, 2 catch 3 -> 4; exit:5 -> 6 end, not 1 + 2."
	l := tokensOf(t, s)
	before := slices.Clone(l)
	first, root, err := parse.Parse(l)
	if err != nil {
		t.Fatal(err)
	}
	want := write(treeOf(first, root), true)
	for i := range l {
		l[i] = api.Token{Kind: -1, Text: "gone", At: -1}
	}
	if write(treeOf(first, root), true) != want {
		t.Error("tokens are kept")
	}
	second, again, err := parse.Parse(before)
	if err != nil || write(treeOf(second, again), true) != want {
		t.Fatalf("again: %v", err)
	}
	for i := range first {
		kids := first[i].Kids[:cap(first[i].Kids)]
		for k := range kids {
			kids[k] = -1 - i
		}
	}
	for i := range first {
		for _, kid := range first[i].Kids {
			if kid != -1-i {
				t.Fatalf("the Kids of node %d are those of node %d", i, -1-kid)
			}
		}
		first[i] = api.Node{}
	}
	if write(treeOf(second, again), true) != want {
		t.Error("two answers share memory")
	}
	if third, root, err := parse.Text(s); err != nil || write(treeOf(third, root), true) != want {
		t.Errorf("%s: %v", s, err)
	}
}

// All that Text takes, Check takes; where it refuses, the grammar does.
func FuzzText(f *testing.F) {
	for _, s := range []string{"", "-module(m).", "-module(m). -export([f/1]). f(X) -> X + 1.", inBody("try f() catch error:X -> X; Y -> Y end"), inBody("receive X when a; b, c -> [1 | X] after 10 -> {m:f(), -1} end"), inBody("1 < 2 < 3"), inBody("begin A = B ! C ++ D end, case a of b -> c end")} {
		f.Add(s)
	}
	g := readGrammar(chapter)
	f.Fuzz(func(t *testing.T, s string) {
		nodes, root, err := parse.Text(s)
		l, scanned := lex.Scan(s)
		if scanned != nil || len(l) > 300 {
			return
		}
		at := misplaced(g, l)
		switch {
		case at >= 0:
			if !isRefused(nodes, root, err, faulty(append(places(l), len(s))[at], api.ErrSyntax)) {
				t.Fatalf("%v, not at %d", err, at)
			}
		case err == nil:
			grown(t, nodes, root, err)
			if parse.Check(nodes, root) != nil {
				t.Fatal(parse.Check(nodes, root))
			}
		default:
			t.Fatal(err)
		}
	})
}
