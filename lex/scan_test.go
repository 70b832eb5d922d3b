package lex_test

import (
	"math/rand"
	"slices"
	"strconv"
	"strings"
	"testing"

	"heddle/api"
	"heddle/lex"
)

// The chapter's examples 1 and 2.
func TestScanExamples(t *testing.T) {
	tells(t, "f(X)->'a b'.", named("f", 0), sign("(", 1), vari("X", 2), sign(")", 3), sign("->", 4), named("a b", 6), dot(11))
	tells(t, "X=:=16#fF.", vari("X", 0), sign("=:=", 1), num(255, 4), dot(9))
	tells(t, "$a", num(97, 0))
	tells(t, `$\n`, num(10, 0))
	tells(t, "12a", num(12, 0), named("a", 2))
	refuses(t, "a.b", faulty(1, api.ErrByte))
	refuses(t, "1#0", faulty(0, api.ErrNumber))
	refuses(t, "2#12", faulty(0, api.ErrNumber))
	refuses(t, "'a", faulty(0, api.ErrQuote), api.Fault{Layer: "atom", At: 0, Code: api.ErrQuote})
	tells(t, "end", word("end", 0))
	refuses(t, `"`, faulty(0, api.ErrByte))
}

// P10.1: texts without a token.
func TestScanNothing(t *testing.T) {
	for _, s := range []string{"", " ", "\t", "\n", "\r", "\r\n\t ", "%", "%\n", "% a\r% b", "%%", "  % f(X). $ ' \"\n\t% and more", "%\xff\xc3\x00\n", strings.Repeat(" ", 65536), "%" + strings.Repeat("'", 65535)} {
		tells(t, s)
	}
}

// P10.1: 65536 bytes, and one more.
func TestScanLong(t *testing.T) {
	for _, c := range []string{" ", "a ", ",", "%", "% \n", "X,", "\xff", "'"} {
		full := strings.Repeat(c, 65536)[:65536]
		scans(t, full)
		scans(t, full[1:])
		refuses(t, full+" ", faulty(0, api.ErrLong))
		refuses(t, " "+full, faulty(0, api.ErrLong))
		refuses(t, full+full, faulty(0, api.ErrLong))
	}
	if l, err := lex.Scan(strings.Repeat(" ", 65535) + "."); err != nil || !slices.Equal(l, []api.Token{dot(65535)}) {
		t.Errorf("a dot as the byte 65536: %s, %v", show(l), err)
	}
	refuses(t, strings.Repeat(" ", 65535)+"\"", faulty(65535, api.ErrByte))
}

// P10.1: as many tokens as may be; of one more byte the length is told.
func TestScanMany(t *testing.T) {
	full := strings.Repeat(",", 65536)
	l, err := lex.Scan(full)
	if err != nil || len(l) != 65536 {
		t.Fatalf("%d tokens, %v", len(l), err)
	}
	for i, one := range l {
		if one != sign(",", i) {
			t.Fatalf("token %d is %+v", i, one)
		}
	}
	refuses(t, full+",", faulty(0, api.ErrLong))
	l, err = lex.Scan(full[1:] + ".")
	if err != nil || len(l) != 65536 || l[65535] != dot(65535) {
		t.Errorf("%d tokens, %v", len(l), err)
	}
	refuses(t, full[1:]+"#", faulty(65535, api.ErrByte))
}

// P10.1: every byte alone, behind others, and as a token's first with every other byte behind it.
func TestScanBytes(t *testing.T) {
	for b := range 256 {
		c := string([]byte{byte(b)})
		alone := func() []api.Token {
			switch {
			case b >= 'a' && b <= 'z':
				return []api.Token{named(c, 0)}
			case b >= 'A' && b <= 'Z' || c == "_":
				return []api.Token{vari(c, 0)}
			case b >= '0' && b <= '9':
				return []api.Token{num(int64(b-'0'), 0)}
			case c == ".":
				return []api.Token{dot(0)}
			case strings.Contains("()[]{},;:|!=+-*/<>", c):
				return []api.Token{sign(c, 0)}
			}
			return nil
		}()
		switch {
		case alone != nil || strings.Contains("\t\n\r %", c):
			tells(t, c, alone...)
		case c == "'":
			refuses(t, c, faulty(0, api.ErrQuote), api.Fault{Layer: "atom", At: 0, Code: api.ErrQuote})
		case c == "$":
			refuses(t, c, faulty(0, api.ErrChar))
		default:
			refuses(t, c, faulty(0, api.ErrByte))
			refuses(t, "a, "+c+" b", faulty(3, api.ErrByte))
		}
		for d := range 256 {
			scans(t, c+string([]byte{byte(d)}))
		}
	}
}

// P10.1: short texts of the bytes that make something of one another, all of them.
func TestScanShortTexts(t *testing.T) {
	var all func(alphabet, s string, more int)
	all = func(alphabet, s string, more int) {
		scans(t, s)
		for i := 0; more > 0 && i < len(alphabet); i++ {
			all(alphabet, s+alphabet[i:i+1], more-1)
		}
	}
	all("a_A0#$\\x'. %\n=:\xc3\xa9@", "", 4)
	all("=:/<>-+|", "", 5)
	all("01#29aZ", "", 5)
	all("$\\xnaF ", "", 5)
}

// P10.1: every sign, alone, and two and three side by side: the longest counts.
func TestScanSigns(t *testing.T) {
	for _, a := range allSigns {
		tells(t, a, sign(a, 0))
		tells(t, a+"a", sign(a, 0), named("a", len(a)))
		tells(t, "9"+a+"1", num(9, 0), sign(a, 1), num(1, 1+len(a)))
		for _, b := range allSigns {
			tells(t, a+" "+b, sign(a, 0), sign(b, len(a)+1))
			scans(t, a+b)
			for _, c := range allSigns {
				scans(t, a+b+c)
			}
		}
	}
	for s, want := range map[string]string{
		"=:": "= :", "=/": "= /", "<=": "< =", "=>": "= >", "=<=": "=< =", "===": "== =", "=:=:=": "=:= : =", "=:==": "=:= =", "=/==": "=/= =", "=/<": "= / <", "==:=": "== : =", "=:/=": "= : /=",
		"/==": "/= =", "//=": "/ /=", "/=:=": "/= : =", "->>": "-> >", "-->": "-- >", "---": "-- -", "+++": "++ +", "+-": "+ -", ">==": ">= =", ">=<": ">= <", "><": "> <", "||": "| |", "::": ": :", "<-": "< -", "!=": "! =", "==<": "== <", "=<<": "=< <", "=->": "= ->",
	} {
		l, err := lex.Scan(s)
		var got []string
		for _, one := range l {
			got = append(got, one.Text)
		}
		if strings.Join(got, " ") != want || err != nil {
			t.Errorf("Scan(%q): %q, %v, want %s", s, got, err, want)
		}
	}
}

// P10.1: reserved words, and words that begin or end so.
func TestScanWords(t *testing.T) {
	for _, w := range reserved {
		tells(t, w, word(w, 0))
		tells(t, "("+w+")", sign("(", 0), word(w, 1), sign(")", 1+len(w)))
		tells(t, w+"."+"\n"+w, word(w, 0), dot(len(w)), word(w, len(w)+2))
		tells(t, "'"+w+"'", named(w, 0))
		tells(t, w+"''", word(w, 0), named("", len(w)))
		for _, more := range []string{"_", "@", "s", "S", "0", "x1"} {
			tells(t, w+more, named(w+more, 0))
		}
		for n := 1; n < len(w); n++ {
			if !slices.Contains(reserved, w[:n]) {
				tells(t, w[:n], named(w[:n], 0))
			}
		}
		tells(t, "y"+w, named("y"+w, 0))
		tells(t, "1"+w, num(1, 0), word(w, 1))
		tells(t, strings.ToUpper(w), vari(strings.ToUpper(w), 0))
		tells(t, "_"+w, vari("_"+w, 0))
		refuses(t, "@"+w, faulty(0, api.ErrByte))
	}
	tells(t, "and andalso", word("and", 0), word("andalso", 4))
	tells(t, "or orelse", word("or", 0), word("orelse", 3))
	tells(t, "andals", named("andals", 0))
}

// P10.1: variables.
func TestScanVars(t *testing.T) {
	for _, s := range []string{"X", "Z", "A", "_", "__", "_x", "_X", "_1", "_@", "Xyz", "X_1", "X@y", "End", "XXX0123456789abcxyzABCXYZ_@"} {
		tells(t, s, vari(s, 0))
		tells(t, " "+s+"-", vari(s, 1), sign("-", 1+len(s)))
	}
	for _, first := range []string{"X", "_"} {
		full := first + strings.Repeat("y", 254)
		tells(t, full, vari(full, 0))
		tells(t, full+" "+full, vari(full, 0), vari(full, 256))
		refuses(t, full+"y", faulty(0, api.ErrLong))
		refuses(t, "f("+full+"@)", faulty(2, api.ErrLong))
		refuses(t, strings.Repeat(first, 65536), faulty(0, api.ErrLong))
	}
	refuses(t, "Xé", faulty(1, api.ErrByte))
}

// P10.1: atoms, and each fault that atom.Scan tells of one.
func TestScanAtoms(t *testing.T) {
	tells(t, "foo'bar'x''", named("foo", 0), named("bar", 3), named("x", 8), named("", 9))
	tells(t, `'it\'s' '\n\t\r\\' '\x41\xc3\xA9' '%' '. '`, named("it's", 0), named("\n\t\r\\", 8), named("Aé", 19), named("%", 34), named(". ", 38))
	tells(t, "'\\xc3\xa9'", named("é", 0)) // half of it as an escape
	full := strings.Repeat("a", 255)
	tells(t, full, named(full, 0))
	tells(t, "'"+full+"'", named(full, 0))
	for _, c := range []struct {
		s     string
		under int
		code  api.Errno
	}{
		{full + "a", 0, api.ErrLong}, {"'" + full + "a'", 0, api.ErrLong}, {"'" + strings.Repeat("é", 128) + "'", 0, api.ErrLong},
		{"'", 0, api.ErrQuote}, {"'a", 0, api.ErrQuote}, {`'a\'`, 0, api.ErrQuote}, {"'a\n'", 0, api.ErrQuote}, {"'a\x7f'", 0, api.ErrQuote}, {"'\x00'", 0, api.ErrQuote},
		{`'\q'`, 1, api.ErrEscape}, {`'ab\s'`, 3, api.ErrEscape}, {`'ab\"'`, 3, api.ErrEscape}, {`'\x4'`, 1, api.ErrEscape}, {`'\xg0'`, 1, api.ErrEscape}, {`'a\`, 2, api.ErrEscape},
		{"'\xff'", 0, api.ErrUTF}, {"'ab\xc3'", 0, api.ErrUTF}, {`'\xff'`, 0, api.ErrUTF}, {"'\xed\xa0\x80'", 0, api.ErrUTF},
	} {
		for _, ahead := range []string{"", " ", "X, ", "%\n\n", " % \xff\n", "f('a', "} {
			s, at := ahead+c.s, len(ahead)
			refuses(t, s, faulty(at, c.code), api.Fault{Layer: "atom", At: at + c.under, Code: c.code})
		}
	}
}

// P10.1: numbers of every base, at the edge and one more, with zeros ahead.
func TestScanNumbers(t *testing.T) {
	const most = int64(1<<59 - 1)
	for _, c := range []struct {
		s string
		n int64
	}{
		{"0", 0}, {"00", 0}, {"007", 7}, {"9", 9}, {"123456789", 123456789}, {"576460752303423487", most}, {"576460752303423486", most - 1}, {"000000000000000000000000576460752303423487", most},
		{"2#0", 0}, {"2#1", 1}, {"2#01011", 11}, {"10#15", 15}, {"16#ff", 255}, {"16#Ff", 255}, {"16#07ffffffffffffff", most}, {"36#zz", 1295}, {"36#Zz", 1295}, {"36#ZZ", 1295}, {"002#1", 1}, {"0000000000000000000000000016#10", 16}, {"36#0", 0},
	} {
		tells(t, c.s, num(c.n, 0))
		tells(t, "-"+c.s+".", sign("-", 0), num(c.n, 1), dot(1+len(c.s)))
	}
	for base := 2; base <= 36; base++ {
		ahead := strconv.Itoa(base) + "#"
		for n := range int64(base) {
			digit := strconv.FormatInt(n, base)
			tells(t, ahead+digit, num(n, 0))
			tells(t, ahead+strings.ToUpper(digit), num(n, 0))
			tells(t, ahead+"1"+digit, num(int64(base)+n, 0))
		}
		for n := base; n < 36; n++ {
			digit := strconv.FormatInt(int64(n), 36)
			for _, wrong := range []string{digit, strings.ToUpper(digit), "1" + digit, digit + "1", "0" + digit} {
				refuses(t, ahead+wrong, faulty(0, api.ErrNumber))
			}
		}
		edge, beyond := strconv.FormatInt(most, base), strconv.FormatInt(most+1, base)
		tells(t, ahead+edge, num(most, 0))
		tells(t, ahead+"000"+strings.ToUpper(edge), num(most, 0))
		refuses(t, ahead+beyond, faulty(0, api.ErrNumber))
		refuses(t, ahead+edge+"0", faulty(0, api.ErrNumber))
		refuses(t, ahead+strings.Repeat("1", 70), faulty(0, api.ErrNumber))
		refuses(t, ahead, faulty(0, api.ErrNumber))
		refuses(t, ahead+" 1", faulty(0, api.ErrNumber))
		refuses(t, ahead+"_1", faulty(0, api.ErrNumber))
		refuses(t, ahead+"@", faulty(0, api.ErrNumber))
		refuses(t, ahead+"-1", faulty(0, api.ErrNumber))
		refuses(t, ahead+"+1", faulty(0, api.ErrNumber))
		refuses(t, ahead+"#1", faulty(0, api.ErrNumber))
		refuses(t, ahead+"é", faulty(0, api.ErrNumber))
	}
	for _, base := range []string{"0", "1", "37", "00", "01", "99", "100", "256", "258", "65538", "4294967298", "576460752303423488", "18446744073709551618", strings.Repeat("9", 60000)} {
		for _, digits := range []string{"0", "1", "", "10", "0x1"} {
			refuses(t, base+"#"+digits, faulty(0, api.ErrNumber))
		}
	}
}

// P10.1: where a number ends, and what is beyond the edge.
func TestScanNumbersEnd(t *testing.T) {
	for _, s := range []string{"576460752303423488", "9223372036854775807", "9223372036854775808", "18446744073709551615", "18446744073709551616", strings.Repeat("9", 65535), "0" + "576460752303423488"} {
		refuses(t, s, faulty(0, api.ErrNumber))
		refuses(t, " "+s, faulty(1, api.ErrNumber))
	}
	tells(t, strings.Repeat("0", 65535)+"5", num(5, 0))
	tells(t, "12a", num(12, 0), named("a", 2))
	tells(t, "12X", num(12, 0), vari("X", 2))
	tells(t, "12_3", num(12, 0), vari("_3", 2))
	tells(t, "0x1", num(0, 0), named("x1", 1))
	tells(t, "1end", num(1, 0), word("end", 1))
	tells(t, "16#ff_a", num(255, 0), vari("_a", 5))
	tells(t, "16#f'f'", num(15, 0), named("f", 4))
	tells(t, "1-2", num(1, 0), sign("-", 1), num(2, 2))
	tells(t, "1 2", num(1, 0), num(2, 2))
	refuses(t, "12@", faulty(2, api.ErrByte))
	refuses(t, "16#f@", faulty(4, api.ErrByte))
	refuses(t, "2#1#1", faulty(3, api.ErrByte))
	refuses(t, "2 #1", faulty(2, api.ErrByte))
	refuses(t, "#1", faulty(0, api.ErrByte))
	refuses(t, "a#1", faulty(1, api.ErrByte))
	refuses(t, "1.5", faulty(1, api.ErrByte))
	refuses(t, "16#fg", faulty(0, api.ErrNumber))
	refuses(t, "10#1a", faulty(0, api.ErrNumber))
}

// P10.1: characters behind $: every code point to 0x3000, and those at the edges of the others.
func TestScanChars(t *testing.T) {
	points := []rune{0x3001, 0xd7ff, 0xe000, 0xfffc, 0xfffd, 0xfffe, 0xffff, 0x10000, 0x1f600, 0x10fffe, 0x10ffff}
	for c := rune(0x3000); c >= 0; c-- {
		points = append(points, c)
	}
	for _, c := range points {
		s := "$" + string(c)
		switch {
		case c < 32 || c == 127 || c == '\\':
			refuses(t, s, faulty(0, api.ErrChar))
			refuses(t, "a "+s+"é", faulty(2, api.ErrChar))
		default:
			tells(t, s, num(int64(c), 0))
			tells(t, s+s, num(int64(c), 0), num(int64(c), len(s)))
			tells(t, s+"a", num(int64(c), 0), named("a", len(s)))
		}
	}
	for _, s := range []string{
		"$", "$\x80", "$\xbf", "$\xc0\x80", "$\xc1\xbf", "$\xc3", "$\xc3(", "$\xe0\x80\x80", "$\xe0\x9f\xbf", "$\xe2\x82", "$\xe2\x82a", "$\xed\xa0\x80", "$\xed\xbf\xbf",
		"$\xf0\x80\x80\x80", "$\xf0\x8f\xbf\xbf", "$\xf0\x9f\x98", "$\xf4\x90\x80\x80", "$\xf5\x80\x80\x80", "$\xfe", "$\xff",
	} {
		refuses(t, s, faulty(0, api.ErrChar))
		refuses(t, "x,"+s, faulty(2, api.ErrChar))
	}
}

// P10.1: escapes behind $.
func TestScanEscapes(t *testing.T) {
	right := map[byte]int64{'n': 10, 't': 9, 'r': 13, 's': 32, '\\': 92, '\'': 39, '"': 34}
	for b := range 256 {
		s := `$\` + string([]byte{byte(b)})
		if n, ok := right[byte(b)]; ok {
			tells(t, s, num(n, 0))
			tells(t, s+"n", num(n, 0), named("n", 3))
		} else {
			refuses(t, s, faulty(0, api.ErrChar))
			refuses(t, " "+s+" ", faulty(1, api.ErrChar))
		}
	}
	const digits = "0123456789abcdefABCDEF"
	for a := range 256 {
		for b := range 256 {
			s := `$\x` + string([]byte{byte(a), byte(b)})
			n, err := strconv.ParseUint(s[3:], 16, 64)
			if strings.IndexByte(digits, byte(a)) < 0 || strings.IndexByte(digits, byte(b)) < 0 {
				refuses(t, s, faulty(0, api.ErrChar))
			} else if err == nil {
				tells(t, s, num(int64(n), 0))
			}
		}
	}
	tells(t, `$\x411`, num(65, 0), num(1, 5))
	tells(t, `$\x00$\xfF`, num(0, 0), num(255, 5))
	refuses(t, `$\x`, faulty(0, api.ErrChar))
	refuses(t, `$\x4`, faulty(0, api.ErrChar))
	refuses(t, `$\x 41`, faulty(0, api.ErrChar))
	refuses(t, `$\`, faulty(0, api.ErrChar))
}

// P10.1: a dot ahead of every byte, and at the end.
func TestScanDots(t *testing.T) {
	tells(t, ".", dot(0))
	tells(t, "a.", named("a", 0), dot(1))
	tells(t, ". . .", dot(0), dot(2), dot(4))
	tells(t, "1. 2", num(1, 0), dot(1), num(2, 3))
	for b := range 256 {
		s := "X." + string([]byte{byte(b)})
		if strings.IndexByte("\t\n\r %", byte(b)) >= 0 {
			tells(t, s, vari("X", 0), dot(1))
			tells(t, s+"\n.", vari("X", 0), dot(1), dot(4))
		} else {
			refuses(t, s, faulty(1, api.ErrByte))
		}
	}
}

// P10.1: comments go to the next byte 10 or to the end, blanks stand anywhere.
func TestScanComments(t *testing.T) {
	tells(t, "a%b", named("a", 0))
	tells(t, "a%b\nc", named("a", 0), named("c", 4))
	tells(t, "a%b\rc", named("a", 0))
	tells(t, "%a\n%b\n c%\nd", named("c", 7), named("d", 10))
	tells(t, "a % \xff\xc3\nb", named("a", 0), named("b", 7))
	tells(t, "=%\n=", sign("=", 0), sign("=", 3))
	tells(t, "12%#\n3", num(12, 0), num(3, 5))
	tells(t, "$%%", num(37, 0))
	tells(t, "$% %", num(37, 0))
	tells(t, "'%'%'", named("%", 0))
	tells(t, "f\t(\r\n) %", named("f", 0), sign("(", 2), sign(")", 5))
	refuses(t, "% \n\v", faulty(3, api.ErrByte))
	refuses(t, "\f", faulty(0, api.ErrByte))
	refuses(t, "\u00a0", faulty(0, api.ErrByte))
	refuses(t, "\u2028", faulty(0, api.ErrByte))
}

// P10.1: of several faults the first from the left.
func TestScanFirstFault(t *testing.T) {
	faults := []struct {
		s    string
		code api.Errno
	}{
		{`" `, api.ErrByte}, {".a ", api.ErrByte}, {"1#0 ", api.ErrNumber}, {"2#2 ", api.ErrNumber}, {"576460752303423488 ", api.ErrNumber}, {"$\\q ", api.ErrChar}, {"$\n ", api.ErrChar},
		{"X" + strings.Repeat("x", 255) + " ", api.ErrLong}, {"'\\q' ", api.ErrEscape}, {"'\xff' ", api.ErrUTF}, {"'\n' ", api.ErrQuote}, {strings.Repeat("x", 256) + " ", api.ErrLong},
	}
	for _, a := range faults {
		for _, b := range faults {
			for _, ahead := range []string{"", "f(X) ", "% \" \n"} {
				s := ahead + a.s + b.s
				l, err := lex.Scan(s)
				f, ok := err.(*api.Fault)
				if !ok || f.At != len(ahead) || f.Code != a.code || len(l) != 0 {
					t.Errorf("Scan(%s) = %s, %v, want errno %d at %d", show(s), show(l), err, a.code, len(ahead))
				}
				scans(t, s)
			}
		}
	}
}

// P10.1: texts of many pieces, held against the words.
func TestScanPieces(t *testing.T) {
	for _, a := range pieces {
		scans(t, a)
		for _, b := range pieces {
			scans(t, a+b)
			scans(t, "x "+a+b+" y")
		}
	}
	r := rand.New(rand.NewSource(10))
	for range 40000 {
		scans(t, someText(r, 12))
		scans(t, goodText(r, 12))
	}
}

// Rule 4: what was told is new each time, and nobody's else.
func TestScanMemory(t *testing.T) {
	const s = "f(X, 'a b') -> 12."
	first, _ := lex.Scan(s)
	want := slices.Clone(first)
	for i := range first[:cap(first)] {
		first[:cap(first)][i] = api.Token{Kind: 99, Text: "scribbled", Int: 99, At: 99}
	}
	second, err := lex.Scan(s)
	if err != nil || !slices.Equal(second, want) || len(want) != 9 {
		t.Errorf("%s, %v, want %s", show(second), err, show(want))
	}
}

// Rule 1 and P10.1: any bytes.
func FuzzScan(f *testing.F) {
	for _, s := range pieces {
		f.Add(s)
	}
	f.Add("-module(m). f(X) when X > 1 -> 'a b' ! {X, 16#ff, $a}. % end")
	f.Fuzz(func(t *testing.T, s string) {
		scans(t, s)
		l, err := lex.Scan(s)
		if err != nil {
			return
		}
		joins(t, l)
	})
}
