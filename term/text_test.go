package term_test

import (
	"errors"
	"fmt"
	"math"
	"math/rand"
	"strconv"
	"strings"
	"testing"

	"heddle/api"
	"heddle/atom"
	"heddle/term"
)

// read: what Read makes of a text that is one.
func read(t *testing.T, s string) api.Term {
	t.Helper()
	x, err := term.Read(s)
	if err != nil {
		t.Fatalf("Read(%.80q): %v", s, err)
	}
	return x
}

// texts: terms, and what Print makes of them.
func texts() []struct {
	t    api.Term
	text string
} {
	return []struct {
		t    api.Term
		text string
	}{
		{tuple(word("ok"), list(num(1), num(2), word("x")), word("A b"), null()), "{ok,[1,2|x],'A b',[]}"},
		{pid("n@h", 1, 5, 0), "<n@h.1.5.0>"},
		{num(0), "0"}, {num(7), "7"}, {num(-1), "-1"}, {num(-10), "-10"}, {num(api.MaxInt), "576460752303423487"}, {num(api.MinInt), "-576460752303423488"},
		{word(""), "''"}, {word("a"), "a"}, {word("a@B_9"), "a@B_9"}, {word("end"), "'end'"}, {word("it's\n\x00"), `'it\'s\n\x00'`}, {word("é"), "'é'"}, {word("[]"), "'[]'"}, {word("\x7f\u0080"), "'\\x7f\u0080'"},
		{ref("n@h", 0, 0, 0, 0), "#Ref<n@h.0.0.0.0>"}, {ref("n-1@h.x", 2, 1, 2, 3), "#Ref<'n-1@h.x'.2.1.2.3>"}, {ref("N@h", math.MaxUint32, 10, math.MaxUint32, 0), "#Ref<'N@h'.4294967295.10.4294967295.0>"},
		{pid("a-b@127.0.0.1", math.MaxUint32, math.MaxUint32, math.MaxUint32), "<'a-b@127.0.0.1'.4294967295.4294967295.4294967295>"}, {pid("end@h", 1, 2, 3), "<end@h.1.2.3>"},
		{tuple(), "{}"}, {tuple(num(1)), "{1}"}, {tuple(num(1), num(-2), tuple()), "{1,-2,{}}"}, {tuple(null(), null()), "{[],[]}"},
		{null(), "[]"},
		{list(num(1), null()), "[1]"}, {list(num(1), num(2), null()), "[1,2]"}, {list(null(), null()), "[[]]"}, {list(num(1), num(2)), "[1|2]"}, {list(num(1), tuple()), "[1|{}]"}, {list(word("a"), word("b"), word("c")), "[a,b|c]"},
		{list(list(num(1), null()), num(2), list(num(3), num(4)), null()), "[[1],2,[3|4]]"}, {list(num(1), tuple(list(num(2), null()))), "[1|{[2]}]"},
		{tuple(pid("n@h", 1, 2, 3), ref("n@h", 1, 2, 3, 4), list(pid("n@h", 1, 2, 3), ref("n@h", 1, 2, 3, 4))), "{<n@h.1.2.3>,#Ref<n@h.1.2.3.4>,[<n@h.1.2.3>|#Ref<n@h.1.2.3.4>]}"},
	}
}

// P2.4, P2.5, P2.7
func TestPrintAndRead(t *testing.T) {
	for _, c := range texts() {
		if got, err := term.Print(c.t); got != c.text || err != nil {
			t.Errorf("Print(%v) = %s, %v, want %s", c.t, got, err, c.text)
		}
		if got, err := term.Read(c.text); !same(got, c.t) || err != nil {
			t.Errorf("Read(%s) = %v, %v", c.text, got, err)
		}
	}
	for _, x := range append(small(), rising()...) {
		text, err := term.Print(x)
		if err != nil {
			t.Fatal(err)
		}
		if got, err := term.Read(text); !same(got, x) || err != nil {
			t.Errorf("Read(Print(%v)) = %v, %v", x, got, err)
		}
	}
}

// P2.5: texts that Print does not write.
func TestReadOthers(t *testing.T) {
	for s, want := range map[string]string{
		"[1|[2]]": "[1,2]", "[1|[]]": "[1]", "[1|[2|[3|[]]]]": "[1,2,3]", "[1|[2|3]]": "[1,2|3]", "[1,2|[3,4|x]]": "[1,2,3,4|x]", "[[1|[2]]|[[3]]]": "[[1,2],[3]]", "[1|{[2]}]": "[1|{[2]}]", "{[1|[2]]}": "{[1,2]}",
		"'a'": "a", "'\\x61'": "a", "'\\x0A'": `'\n'`, "'\\x41'": "'A'", "<'n@h'.1.2.3>": "<n@h.1.2.3>", "#Ref<'n@\\x68'.1.2.3.4>": "#Ref<n@h.1.2.3.4>",
		" [ 1 | [ 2 ] ] ": "[1,2]", "{ a ,\tb}\n": "{a,b}", "\r\n\t 1\r\n\t ": "1", "[ ]": "[]", "{ }": "{}", "{\n}": "{}", "[ -1 ]": "[-1]", "[ 'a b' | b ]": "['a b'|b]", "[ <n@h.1.2.3> , #Ref<n@h.1.2.3.4> ]": "[<n@h.1.2.3>,#Ref<n@h.1.2.3.4>]",
		"[a,'b'|'c']": "[a,b|c]", "'\u00a0'": "'\u00a0'", "{a@b}": "{a@b}", "{1,'}'}": "{1,'}'}", "{0,0}": "{0,0}",
	} {
		if got, err := term.Print(read(t, s)); got != want || err != nil {
			t.Errorf("%q is read as %s, %v, want %s", s, got, err, want)
		}
	}
}

// noText: Read refuses so, and answers nothing beside it.
func noText(t *testing.T, s string, code api.Errno, at int, under error) {
	t.Helper()
	got, err := term.Read(s)
	refusedUnder(t, fmt.Sprintf("Read(%.60q)", s), err, code, at, under)
	if !isZero(got) {
		t.Errorf("Read(%.60q) answers %.80v beside its error", s, got)
	}
}

// P2.5: ErrText, at the first byte with which no term's text goes on.
func TestReadErrText(t *testing.T) {
	for s, at := range map[string]int{
		"": 0, " ": 1, "\t\n\r ": 4, "X": 0, " X": 1, "_": 0, "@": 0, "\x00": 0, "\xff": 0, "é": 0, "\"": 0, "$a": 0, "+1": 0, ".": 0, ">": 0, "|": 0, ",": 0, "}": 0, "]": 0, "(": 0, "%": 0, "?": 0, "`": 0, "/": 0, ":": 0, "1/": 1, "1:": 1, "\v1": 0, "\f": 0, "\u00a01": 0, "\x0b": 0,
		"01": 1, "00": 1, "-": 1, "-0": 1, "-01": 1, "--1": 1, "- 1": 1, "-a": 1, "0 1": 2, "1 2": 2, "1a": 1, "1 a": 2, "1.": 1, "1.0": 1, "1e3": 1, "1'a'": 1, "1_000": 1, "12-3": 2, "{01}": 2, "[-0]": 2, "[1,02]": 4,
		"a b": 2, "a'b'": 1, "'a''b'": 3, "'a'b": 3, "a.b": 1, "a-b": 1, "aé": 1, "a,": 1, "a|b": 1, "a\x00": 1, "a\v": 1, "a(": 1,
		"{": 1, "{ ": 2, "{1": 2, "{1 ": 3, "{1,": 3, "{1,2": 4, "{,": 1, "{,}": 1, "{1,}": 3, "{1,,2}": 3, "{1 2}": 3, "{1|2}": 2, "{1]": 2, "{]": 1, "{|": 1, "{}}": 2, "{} {}": 3, "{}1": 2, "{1}a": 3, "{1;2}": 2,
		"[": 1, "[ ": 2, "[1": 2, "[1,": 3, "[1,2,]": 5, "[,": 1, "[|": 1, "[|1]": 1, "[1|": 3, "[1|]": 3, "[1||2]": 3, "[1|2": 4, "[1|2,3]": 4, "[1|2|3]": 4, "[1|2}": 4, "[1|2 3]": 5, "[1,|2]": 3, "[}": 1, "[1}": 2, "[]]": 2, "[][]": 2, "[1]1": 3, "[1|[2]": 6, "[1|[2],3]": 6, "[1 2]": 3, "[[": 2, "[[]": 3, "[1|[2|": 6,
		"<": 1, "< n@h.1.2.3>": 1, "<X@h.1.2.3>": 1, "<1.2.3>": 1, "<>": 1, "<.": 1, "<n@h": 4, "<n@h>": 4, "<n@h 1": 4, "<n@h .1.2.3>": 4, "<n@h.": 5, "<n@h. 1.2.3>": 5, "<n@h..1": 5, "<n@h.a": 5, "<n@h.-1.2.3>": 5, "<n@h.+1.2.3>": 5, "<n@h./": 5, "<n@h.:": 5, "<n@h.1:": 6, "<n@h.01.2.3>": 6, "<n@h.1": 6, "<n@h.1>": 6, "<n@h.1 .2.3>": 6, "<n@h.1,2.3>": 6, "<n@h.1.": 7, "<n@h.1.>": 7, "<n@h.1.2>": 8, "<n@h.1.2": 8, "<n@h.1.2.": 9, "<n@h.1.02.3>": 8, "<n@h.1.2.03>": 10, "<n@h.1.2.3": 10, "<n@h.1.2.3 >": 10, "<n@h.1.2.3.4>": 10, "<n@h.1.2.3>>": 11, "<n@h.1.2.3>1": 11, "<n@h.1.2.3> <": 12, "<'n@h'1": 6,
		"#": 1, "# ": 1, "#R": 2, "#Re": 3, "#Ref": 4, "#ref<": 1, "#Rff<": 2, "#Reg<": 3, "#Ref <": 4, "#Ref>": 4, "#Ref<": 5, "#Ref< ": 5, "#<n@h.1.2.3.4>": 1, "# Ref<n@h.1.2.3.4>": 1, "#Ref<n@h.1.2.3>": 14, "#Ref<n@h.1.2.3.4.5>": 16, "#Ref<n@h.1.2.3.4": 16, "#Ref<n@h.1.2.3.04>": 16, "#Ref<X": 5, "Ref<n@h.1.2.3.4>": 0, "[#Ref<n@h.1.2.3.4>|#": 20,
	} {
		noText(t, s, api.ErrText, at, nil)
	}
}

// P2.5: faults of whole ints, numbers, atoms and names, at their first bytes; they are ahead of what stands right of them.
func TestReadFaultsOfWholes(t *testing.T) {
	atomFault := func(code api.Errno, at int) error { return &api.Fault{Layer: "atom", At: at, Code: code} }
	for _, s := range []string{"576460752303423488", "-576460752303423489", "576460752303423488x", "9223372036854775807", "9223372036854775808", "-9223372036854775809", "18446744073709551617", "1" + strings.Repeat("0", 1000), "-1" + strings.Repeat("0", 1000), "576460752303423488 1", "576460752303423488}"} {
		noText(t, s, api.ErrRange, 0, nil)
		noText(t, " \n"+s, api.ErrRange, 2, nil)
		noText(t, "{a,"+s, api.ErrRange, 3, nil)
		noText(t, "[a| "+s, api.ErrRange, 4, nil)
	}
	for _, s := range []string{"4294967296", "9999999999", "18446744073709551616", "18446744073709551617", "1" + strings.Repeat("0", 1000), "4294967296x", "4294967296 ", "42949672960"} {
		noText(t, "<n@h."+s, api.ErrText, 5, nil)
		noText(t, "<n@h.1."+s+".1>", api.ErrText, 7, nil)
		noText(t, "<n@h.4294967295.0."+s+">", api.ErrText, 18, nil)
		noText(t, "{#Ref<n@h."+s+".1.1.1>}", api.ErrText, 10, nil)
		noText(t, "#Ref<n@h.1.1.1."+s+">", api.ErrText, 15, nil)
	}
	for _, c := range []struct {
		s    string
		code api.Errno
		at   int // of the fault under
	}{
		{"end", api.ErrAtom, 0}, {"end ", api.ErrAtom, 0}, {"xor}", api.ErrAtom, 0}, {"'a", api.ErrQuote, 0}, {"'", api.ErrQuote, 0}, {"'a\n'", api.ErrQuote, 0}, {"'\x7f'", api.ErrQuote, 0},
		{`'a\q'`, api.ErrEscape, 2}, {`'\x4'`, api.ErrEscape, 1}, {"'\xff'", api.ErrUTF, 0}, {`'ab\xff'`, api.ErrUTF, 0},
		{strings.Repeat("x", api.MaxAtom+1), api.ErrLong, 0}, {"'" + strings.Repeat("x", api.MaxAtom+1) + "'", api.ErrLong, 0}, {"'" + strings.Repeat("\xff", api.MaxAtom+1) + "'", api.ErrLong, 0},
	} {
		for _, ahead := range []string{"", " ", "{", "{a,\t", "[1|", "[[] , ", "<", "#Ref<", "{<"} {
			noText(t, ahead+c.s, c.code, len(ahead), atomFault(c.code, len(ahead)+c.at))
		}
	}
	for _, s := range []string{"x", "x.1.1.1>", "n@", "n@.", "n@h@k.1.1.1>", "n-1@h.1.1.1>", "'n h'.1.1.1>", "''", "'@h'x", "n@" + strings.Repeat("h", api.MaxName-1)} {
		for _, ahead := range []string{"<", "#Ref<", " {1,<", "[1|#Ref<"} {
			noText(t, ahead+s, api.ErrName, len(ahead), atomFault(api.ErrName, 0))
		}
	}
	if got := read(t, strings.Repeat("x", api.MaxAtom)); len(got.Text) != api.MaxAtom {
		t.Errorf("an atom of MaxAtom bytes: %v", got)
	}
	name := "n@" + strings.Repeat("h", api.MaxName-2)
	if got := read(t, "<"+name+".1.2.3>"); !same(got, pid(name, 1, 2, 3)) {
		t.Errorf("a name of MaxName bytes: %v", got)
	}
}

// P2.5: of several faults the first from the left.
func TestReadFirstFault(t *testing.T) {
	noText(t, "{end,01}", api.ErrAtom, 1, &api.Fault{Layer: "atom", At: 1, Code: api.ErrAtom})
	noText(t, "{01,end}", api.ErrText, 2, nil)
	noText(t, "{a b,end}", api.ErrText, 3, nil)
	noText(t, "{576460752303423488,end}", api.ErrRange, 1, nil)
	noText(t, "{<n@h.1.4294967296.end", api.ErrText, 8, nil)
	noText(t, "{<x.4294967296", api.ErrName, 2, &api.Fault{Layer: "atom", Code: api.ErrName})
	deep := strings.Repeat("{", api.MaxDepth)
	noText(t, "{01,"+deep+"1", api.ErrText, 2, nil)
	noText(t, "{1,"+deep+"01", api.ErrDeep, 2+api.MaxDepth, nil) // the last bracket stands one too deep
	many := strings.Repeat("1,", api.MaxSize)
	noText(t, "{"+many+"X}", api.ErrText, 1+len(many), nil)
	noText(t, "{"+many+"end}", api.ErrAtom, 1+len(many), &api.Fault{Layer: "atom", At: 1 + len(many), Code: api.ErrAtom})
	noText(t, "{"+many+"1", api.ErrText, 2+len(many), nil)
	noText(t, "{"+many+"1}}", api.ErrText, 3+len(many), nil)
	noText(t, "{"+many+deep+"}", api.ErrDeep, len(many)+api.MaxDepth, nil)
}

// P2.5: ErrDeep where a term is to begin, whatever stands there; a bracket that closes begins none.
func TestReadDepth(t *testing.T) {
	open := func(n int) string { return strings.Repeat("{", n) }
	shut := func(n int) string { return strings.Repeat("}", n) }
	for _, c := range []struct{ ahead, behind string }{{"{", "}"}, {"[", "]"}, {" {\n", "\t}\r"}, {"[1|{", "}]"}, {"{1,[2,", "]}"}, {"[1|[", "]]"}} {
		levels := strings.Count(c.ahead, "{") + strings.Count(c.ahead, "[")
		n := (api.MaxDepth - 1) / levels
		rest := api.MaxDepth - 1 - n*levels
		ahead := open(rest) + strings.Repeat(c.ahead, n)
		behind := strings.Repeat(c.behind, n) + shut(rest)
		for _, leaf := range []string{"1", "a", "{}", "[]", "{ }", "[\n]", "<n@h.1.2.3>", "#Ref<n@h.1.2.3.4>"} {
			if _, err := term.Read(ahead + leaf + behind); err != nil {
				t.Errorf("%s as deep as may be: %v", c.ahead+leaf+c.behind, err)
			}
			for _, bracket := range []string{"{", "[", "{ \n", "[\t\r"} {
				s := ahead + bracket
				noText(t, s+leaf+behind, api.ErrDeep, len(s), nil)
			}
		}
		for _, other := range []string{"X", "end", "'a", "01", "-", "\xff", "<", "|", ",", "", "576460752303423488", "{]"} {
			noText(t, ahead+"{"+other, api.ErrDeep, len(ahead)+1, nil)
			noText(t, ahead+"[ "+other, api.ErrDeep, len(ahead)+2, nil)
		}
		noText(t, ahead+"{]", api.ErrDeep, len(ahead)+1, nil)
		noText(t, ahead+"[}", api.ErrDeep, len(ahead)+1, nil)
		noText(t, ahead+"X", api.ErrText, len(ahead), nil)
	}
	// Behind a bar a term stands one deeper, though the list there goes on with the one ahead.
	bars := strings.Repeat("[1|", api.MaxDepth-1)
	ends := strings.Repeat("]", api.MaxDepth-1)
	if size, depth, err := term.Measure(read(t, bars+"[]"+ends)); size != api.MaxDepth+1 || depth != 2 || err != nil {
		t.Errorf("bars: %d, %d, %v", size, depth, err)
	}
	noText(t, bars+"[1]"+ends, api.ErrDeep, len(bars)+1, nil)
	noText(t, bars+"{1}"+ends, api.ErrDeep, len(bars)+1, nil)
	noText(t, strings.Repeat("{", api.MaxTermText), api.ErrDeep, api.MaxDepth, nil)
	noText(t, strings.Repeat("[1|", 1<<20), api.ErrDeep, 3*(api.MaxDepth-1)+1, nil)
}

// P2.5: Check's error of the whole: too many parts.
func TestReadSize(t *testing.T) {
	commas := func(n int) string { return strings.Repeat("1,", n-1) + "1" }
	for _, c := range []struct {
		s    string
		size int
	}{
		{"{" + commas(api.MaxSize-1) + "}", api.MaxSize},
		{"{" + commas(api.MaxSize) + "}", api.MaxSize + 1},
		{"[" + commas(api.MaxSize-2) + "]", api.MaxSize},
		{"[" + commas(api.MaxSize-1) + "]", api.MaxSize + 1},
		{"[" + commas(api.MaxSize-2) + "|x]", api.MaxSize},
		{"[" + commas(api.MaxSize-1) + "|x]", api.MaxSize + 1},
		{"[" + commas(api.MaxSize-3) + "|[2]]", api.MaxSize},
		{"[" + commas(api.MaxSize-2) + "|[2]]", api.MaxSize + 1},
		{"[" + commas(api.MaxSize-4) + "|[2|[3|[]]]]", api.MaxSize},
		{"[" + commas(api.MaxSize-3) + "|[2|[3|[]]]]", api.MaxSize + 1},
		{"[" + strings.Repeat("[1],", 1364) + "1|x]", 4096 - 1},
		{"[" + strings.Repeat("[1],", 1364) + "1,2|x]", 4096},
		{"[" + strings.Repeat("[1],", 1364) + "[2]|x]", 4097},
		{"{" + strings.Repeat("[1|[2]],", 1023) + "1,2,3}", 4096},
		{"{" + strings.Repeat("[1|[2]],", 1023) + "1,2,3,4}", 4097},
		{"{" + strings.Repeat("{},", api.MaxSize-2) + "[]}", api.MaxSize},
		{"{" + strings.Repeat("{},", api.MaxSize-1) + "[]}", api.MaxSize + 1},
		{"{" + strings.Repeat("[[[1]]],", 585) + "1}", 585*7 + 2}, // 4097
		{"{" + strings.Repeat("[[[1]]],", 584) + "[[[1]]]}", 585*7 + 1},
		{"{" + strings.Repeat("1,", 1<<20) + "1}", 1 << 20},
		{"[[" + strings.Repeat("1,", 1<<20) + "1|[2]]|[2]]", 1 << 20},
	} {
		if c.size > api.MaxSize {
			noText(t, c.s, api.ErrMany, api.MaxSize, nil)
			continue
		}
		if size, _, err := term.Measure(read(t, c.s)); size != c.size || err != nil {
			t.Errorf("%.20q..: %d parts, %v, want %d", c.s, size, err, c.size)
		}
	}
}

// P2.5: texts of MaxTermText bytes, and of one more.
func TestReadLength(t *testing.T) {
	for _, c := range []struct{ ahead, behind string }{{"1", ""}, {"", "1"}, {"{a,", "b}"}, {"<n@h.1.2.3>", ""}} {
		s := c.ahead + strings.Repeat(" ", api.MaxTermText-len(c.ahead)-len(c.behind)) + c.behind
		read(t, s)
		noText(t, s+" ", api.ErrLong, 0, nil)
		noText(t, s[:len(s)-1]+"?", api.ErrText, api.MaxTermText-1, nil)
	}
	noText(t, strings.Repeat("1", api.MaxTermText), api.ErrRange, 0, nil)
	noText(t, strings.Repeat("X", api.MaxTermText), api.ErrText, 0, nil)
	noText(t, strings.Repeat(" ", api.MaxTermText), api.ErrText, api.MaxTermText, nil)
	noText(t, strings.Repeat("X", api.MaxTermText+1), api.ErrLong, 0, nil)
	noText(t, strings.Repeat("{", api.MaxTermText+1), api.ErrLong, 0, nil)
	// The longest text that a term has is shorter.
	long := word(strings.Repeat("\x01", api.MaxAtom))
	args := make([]api.Term, api.MaxSize-1)
	for i := range args {
		args[i] = long
	}
	text, err := term.Print(tuple(args...))
	if len(text) != 1+(api.MaxSize-1)*(4*api.MaxAtom+3) || err != nil {
		t.Errorf("the longest text: %d bytes, %v", len(text), err)
	}
	if !same(read(t, text), tuple(args...)) {
		t.Error("the longest text is read as another term")
	}
}

// P2.5: blanks are the bytes 9, 10, 13 and 32; no other byte may stand where they do.
func TestReadBlanks(t *testing.T) {
	// Blanks may stand at each ~, and at no ^.
	const marked = "~{~'a b'~,~-^1^0~,~<^n^@^h^.^1^.^2^3^.^3^>~,~[~#^R^e^f^<^'n@h'^.^1^.^2^.^3^.^4^>~,~b^c~|~x~]~,~[~]~,~{~}~}~"
	plain := strings.NewReplacer("~", "", "^", "")
	want := read(t, plain.Replace(marked))
	for place, mark := range marked {
		if mark != '~' && mark != '^' {
			continue
		}
		ahead, behind := plain.Replace(marked[:place]), plain.Replace(marked[place+1:])
		for b := range 256 {
			c := byte(b)
			blank := c == 9 || c == 10 || c == 13 || c == 32
			if !blank && c > 32 && c < 127 {
				continue
			}
			got, err := term.Read(ahead + string([]byte{c}) + behind)
			switch {
			case mark == '~' && blank && (!same(got, want) || err != nil):
				t.Errorf("%q, %q between, %q: %v, %v", ahead, c, behind, got, err)
			case !(mark == '~' && blank) && err == nil:
				t.Errorf("%q, %q between, %q is read", ahead, c, behind)
			}
		}
	}
	for s, at := range map[string]int{
		"1 0": 2, "b c": 2, // behind a whole one blanks may stand, but not what comes then
		"- 1": 1, "< n@h.1.2.3>": 1, "<n@h .1.2.3>": 4, "<n@h. 1.2.3>": 5, "<n@h.1 .2.3>": 6, "<n@h.1.2.3 >": 10, "# Ref<n@h.1.2.3.4>": 1, "#Ref <n@h.1.2.3.4>": 4, "#R ef<n@h.1.2.3.4>": 2, "#Ref< n@h.1.2.3.4>": 5,
	} {
		noText(t, s, api.ErrText, at, nil)
	}
}

// P2.7: terms of all sorts, their texts written by another hand, with blanks and bars where they may be.
func TestThereAndBack(t *testing.T) {
	random := rand.New(rand.NewSource(1))
	for range 20000 {
		x := randomTerm(random, 4)
		text, err := term.Print(x)
		if err != nil {
			t.Fatalf("Print(%v): %v", x, err)
		}
		if plain := spell(x, func() string { return "" }, nil); text != plain {
			t.Fatalf("Print(%v) = %s, want %s", x, text, plain)
		}
		if got, err := term.Read(text); !same(got, x) || err != nil || !term.Equal(got, x) {
			t.Fatalf("Read(%s) = %v, %v", text, got, err)
		}
		blanks := func() string {
			return []string{"", "", " ", "\t", "\n", "\r", " \t\r\n ", "  "}[random.Intn(8)]
		}
		spelt := spell(x, blanks, random)
		if got, err := term.Read(spelt); !same(got, x) || err != nil {
			t.Fatalf("Read(%q) = %v, %v", spelt, got, err)
		}
	}
}

func randomTerm(random *rand.Rand, depth int) api.Term {
	kind := random.Intn(7)
	if depth == 0 {
		kind = random.Intn(5)
	}
	few := func() []api.Term {
		args := make([]api.Term, random.Intn(4))
		for i := range args {
			args[i] = randomTerm(random, depth-1)
		}
		return args
	}
	switch kind {
	case 0:
		return num([]int64{0, 1, -1, 10, -10, api.MinInt, api.MaxInt, random.Int63n(api.MaxInt), -random.Int63n(api.MaxInt)}[random.Intn(9)])
	case 1:
		return word([]string{"", "a", "abc", "end", "A", "it's", "é\n", "\x00\x7f", "a b", `\`, "|", "}", "n@h", "\U0010ffff"}[random.Intn(14)])
	case 2:
		return ref(randomName(random), random.Uint32(), random.Uint32()>>random.Intn(32), 0, random.Uint32())
	case 3:
		return pid(randomName(random), random.Uint32()>>random.Intn(32), random.Uint32()>>random.Intn(32), random.Uint32())
	case 4:
		return null()
	case 5:
		return tuple(few()...)
	}
	tail := randomTerm(random, 0)
	if random.Intn(2) == 0 {
		tail = null()
	}
	return list(append(append(few(), randomTerm(random, depth-1)), tail)...)
}

func randomName(random *rand.Rand) string {
	return []string{"n@h", "n-1@h.x", "N@h", "end@h", "_@.", "0@1", "a_b@host"}[random.Intn(7)]
}

// spell: a term's text with blanks; with a random source lists may stand behind bars, atoms in quotes.
func spell(t api.Term, blanks func() string, random *rand.Rand) string {
	also := func() bool { return random != nil && random.Intn(3) == 0 }
	quoted := func(s string) string {
		q, _ := atom.Quote(s)
		if also() && !strings.HasPrefix(q, "'") {
			return "'" + q + "'"
		}
		return q
	}
	numbers := func() string {
		s := fmt.Sprintf("%s.%d", quoted(t.Text), t.Creation)
		for _, n := range t.Nums {
			s += fmt.Sprintf(".%d", n)
		}
		return s + ">"
	}
	separated := func(args []api.Term) string {
		var l []string
		for _, a := range args {
			l = append(l, spell(a, blanks, random))
		}
		return strings.Join(l, ",")
	}
	var s string
	switch t.Kind {
	case api.KInt:
		s = strconv.FormatInt(t.Int, 10)
	case api.KAtom:
		s = quoted(t.Text)
	case api.KRef:
		s = "#Ref<" + numbers()
	case api.KPid:
		s = "<" + numbers()
	case api.KTuple:
		s = "{" + separated(t.Args) + blanks() + "}"
	case api.KNil:
		s = "[" + blanks() + "]"
	case api.KList:
		n := len(t.Args) - 1
		elements, tail := t.Args[:n], t.Args[n]
		if cut := n - 1; cut > 0 && also() {
			elements, tail = t.Args[:cut], list(t.Args[cut:]...)
		}
		s = "[" + separated(elements)
		if tail.Kind != api.KNil || also() {
			s += "|" + spell(tail, blanks, random)
		}
		s += blanks() + "]"
	}
	return blanks() + s + blanks()
}

// Rule 4: what Read answers shares no memory within itself, nor with another answer.
func TestReadNewMemory(t *testing.T) {
	const s = "[{<n@h.1.2.3>,[a]},<n@h.1.2.3>|[[b],c|{d}]]"
	first, second := read(t, s), read(t, s)
	parts := []api.Term{term.Copy(first.Args[1]), term.Copy(first.Args[2]), term.Copy(first.Args[4])}
	scribble(first.Args[0])
	for i, at := range []int{1, 2, 4} {
		if !same(first.Args[at], parts[i]) {
			t.Errorf("parts of one answer share memory: %v", first)
		}
	}
	scribble(first)
	if text, _ := term.Print(second); text != "[{<n@h.1.2.3>,[a]},<n@h.1.2.3>,[b],c|{d}]" {
		t.Errorf("answers share memory: %s", text)
	}
}

// walker reads texts as the chapter says by another way than Read's: byte by byte, with a pile of what is open.
type walker struct {
	s    string
	at   int
	open []byte // { and [, and | for a list whose tail is due or told
}

type verdict struct {
	code api.Errno
	at   int
}

func (w *walker) blanks() {
	w.at += len(w.s[w.at:]) - len(strings.TrimLeft(w.s[w.at:], " \t\r\n"))
}

func (w *walker) is(set string) bool {
	return w.at < len(w.s) && strings.Contains(set, w.s[w.at:w.at+1])
}

// judge: what Read is to refuse with, were the text short enough; 0 of a term's text (its size aside).
func judge(s string) verdict {
	w := &walker{s: s}
	for due := true; ; {
		w.blanks()
		if !due && len(w.open) == 0 {
			if w.at < len(s) {
				return verdict{api.ErrText, w.at}
			}
			return verdict{}
		}
		if due {
			if len(w.open) >= api.MaxDepth {
				return verdict{api.ErrDeep, w.at}
			}
			opened, fault := w.begin()
			if fault.code != 0 {
				return fault
			}
			due = opened
			continue
		}
		switch top := w.open[len(w.open)-1]; {
		case top == '{' && w.is("}") || top != '{' && w.is("]"):
			w.open = w.open[:len(w.open)-1]
		case top != '|' && w.is(","):
			due = true
		case top == '[' && w.is("|"):
			w.open[len(w.open)-1] = '|'
			due = true
		default:
			return verdict{api.ErrText, w.at}
		}
		w.at++
	}
}

// begin reads a term's beginning: a bracket that opens (true, unless it is closed at once), or a whole leaf.
func (w *walker) begin() (bool, verdict) {
	from := w.at
	switch {
	case w.is("{["):
		shut := map[byte]string{'{': "}", '[': "]"}[w.s[w.at]]
		w.at++
		w.blanks()
		if w.is(shut) {
			w.at++
			return false, verdict{}
		}
		w.open = append(w.open, w.s[from])
		return true, verdict{}
	case w.is("-0123456789"):
		if w.is("-") {
			w.at++
			if !w.is("123456789") {
				return false, verdict{api.ErrText, w.at}
			}
		}
		w.number()
		if n, err := strconv.ParseInt(w.s[from:w.at], 10, 64); err != nil || n < api.MinInt || n > api.MaxInt {
			return false, verdict{api.ErrRange, from}
		}
		return false, verdict{}
	case w.is("'abcdefghijklmnopqrstuvwxyz"):
		_, v := w.scan()
		return false, v
	case w.is("<"):
		return false, w.parts("<", 2)
	}
	return false, w.parts("#Ref<", 3)
}

func (w *walker) number() string {
	from := w.at
	if w.is("0") {
		w.at++
		return "0"
	}
	w.at += len(w.s[w.at:]) - len(strings.TrimLeft(w.s[w.at:], "0123456789"))
	return w.s[from:w.at]
}

func (w *walker) scan() (string, verdict) {
	text, end, err := atom.Scan(w.s, w.at)
	var f *api.Fault
	if errors.As(err, &f) {
		return "", verdict{f.Code, w.at}
	}
	w.at = end
	return text, verdict{}
}

func (w *walker) parts(sign string, nums int) verdict {
	for ; sign != ""; sign = sign[1:] {
		if !w.is(sign[:1]) {
			return verdict{api.ErrText, w.at}
		}
		w.at++
	}
	if !w.is("'abcdefghijklmnopqrstuvwxyz") {
		return verdict{api.ErrText, w.at}
	}
	from := w.at
	name, v := w.scan()
	if v.code != 0 {
		return v
	}
	if _, _, err := atom.Node(name); err != nil {
		return verdict{api.ErrName, from}
	}
	for range nums + 1 {
		if !w.is(".") {
			return verdict{api.ErrText, w.at}
		}
		w.at++
		from := w.at
		if _, err := strconv.ParseUint(w.number(), 10, 32); err != nil {
			return verdict{api.ErrText, from}
		}
	}
	if !w.is(">") {
		return verdict{api.ErrText, w.at}
	}
	w.at++
	return verdict{}
}

// agree: Read refuses as judge does; what it reads is a term, and comes back from its text.
func agree(t *testing.T, s string) {
	t.Helper()
	got, err := term.Read(s)
	if want := judge(s); want.code != 0 {
		var f *api.Fault
		if !errors.As(err, &f) || f.Layer != "term" || f.Code != want.code || f.At != want.at || !isZero(got) {
			t.Fatalf("Read(%q) = %v, %v, want errno %d at %d", s, got, err, want.code, want.at)
		}
		return
	}
	if errors.Is(err, api.ErrMany) {
		return
	}
	text, printed := term.Print(got)
	if err != nil || printed != nil {
		t.Fatalf("Read(%q): %v; Print: %v", s, err, printed)
	}
	if again, err := term.Read(text); !same(again, got) || err != nil {
		t.Fatalf("Read(%q) = %v, but its text %s is read as %v, %v", s, got, text, again, err)
	}
}

// P2.5: all texts of up to five of these pieces, and up to three of them behind some beginnings.
func TestReadAllShortTexts(t *testing.T) {
	pieces := []string{"0", "1", "-", "a", "'", "{", "}", "[", "]", ",", "|", " ", "<", "#Ref<", "n@h", ".1", ">"}
	var grow func(s string, n int)
	grow = func(s string, n int) {
		agree(t, s)
		if n == 0 {
			return
		}
		for _, p := range pieces {
			grow(s+p, n-1)
		}
	}
	for _, ahead := range []string{"", "[1,", "[1|", "{a", "<n@h.1", "#Ref<n@h.1.2.3"} {
		n := 5
		if ahead != "" {
			n = 3
		}
		grow(ahead, n)
	}
}

// P2.5: texts with one byte left out, put in or changed.
func TestReadChangedTexts(t *testing.T) {
	for _, c := range texts() {
		for i := range len(c.text) + 1 {
			for _, b := range []byte("01-a'\\{}[],| <>#.X\n\x00\xff") {
				agree(t, c.text[:i]+string([]byte{b})+c.text[i:])
				if i < len(c.text) {
					agree(t, c.text[:i]+string([]byte{b})+c.text[i+1:])
				}
			}
			agree(t, c.text[:i])
			agree(t, c.text[i:])
			if i < len(c.text) {
				agree(t, c.text[:i]+c.text[i+1:])
			}
		}
	}
}

func FuzzRead(f *testing.F) {
	for _, c := range texts() {
		f.Add(c.text)
	}
	f.Fuzz(func(t *testing.T, s string) { agree(t, s) })
}
