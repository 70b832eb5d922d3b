package lex_test

import (
	"math"
	"math/rand"
	"slices"
	"strings"
	"testing"

	"heddle/api"
	"heddle/lex"
)

// writes: Write tells of a token what the words say, whatever its place.
func writes(t *testing.T, one api.Token) {
	t.Helper()
	want := modelWrite(one)
	for _, at := range []int{0, -1, 7, math.MinInt, math.MaxInt} {
		one.At = at
		got, err := lex.Write(one)
		switch {
		case want == "":
			refused(t, "Write("+show(one)+")", err, fault(0, api.ErrArg))
		case err != nil:
			t.Fatalf("Write(%s): %v", show(one), err)
		}
		if got != want {
			t.Fatalf("Write(%s) = %s, want %s", show(one), show(got), show(want))
		}
	}
}

// joins: Join tells of tokens what the words say.
func joins(t *testing.T, l []api.Token) {
	t.Helper()
	texts, wrong := make([]string, len(l)+1), chain(nil) // one more, for the blank behind the last one
	for i, one := range l {
		texts[i] = modelWrite(one)
		if texts[i] == "" && wrong == nil {
			wrong = fault(i, api.ErrArg)
		}
	}
	want := strings.Join(texts, " ")
	if wrong == nil && len(want) > 65536 {
		wrong = fault(0, api.ErrLong)
	}
	if wrong != nil {
		want = ""
	}
	got, err := lex.Join(l)
	if wrong != nil {
		refused(t, "Join("+show(l)+")", err, wrong)
	} else if err != nil {
		t.Fatalf("Join(%s): %v", show(l), err)
	}
	if got != want {
		t.Fatalf("Join(%s) = %s, want %s", show(l), show(got), show(want))
	}
}

// P10.2: every kind of token.
func TestWrite(t *testing.T) {
	for _, c := range []struct {
		one  api.Token
		want string
	}{
		{named("a", 3), "a"}, {named("aZ_@9", 0), "aZ_@9"}, {named("", 0), "''"}, {named("A", 0), "'A'"}, {named("_", 0), "'_'"}, {named("9", 0), "'9'"}, {named("a b", 0), "'a b'"}, {named("end", 0), "'end'"}, {named("ends", 0), "ends"},
		{named("it's", 0), `'it\'s'`}, {named("\n\x00\x7f", 0), `'\n\x00\x7f'`}, {named(`\`, 0), `'\\'`}, {named("é", 0), "'é'"}, {named("=:=", 0), "'=:='"}, {named(".", 0), "'.'"}, {named("X", 0), "'X'"}, {named("12", 0), "'12'"},
		{named(strings.Repeat("a", 255), 0), strings.Repeat("a", 255)}, {named(strings.Repeat("\x01", 255), 0), "'" + strings.Repeat(`\x01`, 255) + "'"},
		{vari("X", -5), "X"}, {vari("_", 0), "_"}, {vari("_end", 0), "_end"}, {vari("X1@_y", 0), "X1@_y"}, {vari("X"+strings.Repeat("y", 254), 0), "X" + strings.Repeat("y", 254)},
		{num(0, 0), "0"}, {num(7, 9), "7"}, {num(255, 0), "255"}, {num(576460752303423487, 0), "576460752303423487"},
		{dot(0), "."}, {dot(11), "."}, {word("end", 4), "end"}, {word("xor", 0), "xor"}, {sign("=:=", 0), "=:="}, {sign("-", 0), "-"}, {sign("->", 0), "->"},
	} {
		if got, err := lex.Write(c.one); got != c.want || err != nil {
			t.Errorf("Write(%s) = %s, %v, want %s", show(c.one), show(got), err, c.want)
		}
		writes(t, c.one)
	}
	for _, s := range reserved {
		if got, err := lex.Write(word(s, 0)); got != s || err != nil {
			t.Errorf("Write of the word %s: %s, %v", s, show(got), err)
		}
	}
	for _, s := range allSigns {
		if got, err := lex.Write(sign(s, 0)); got != s || err != nil {
			t.Errorf("Write of the sign %s: %s, %v", s, show(got), err)
		}
	}
}

// P10.2: what is no token.
func TestWriteRefuses(t *testing.T) {
	const most = int64(1<<59 - 1)
	wrong := []api.Token{
		{}, {At: 5}, {Text: "a"}, {Int: 1},
		named("\xff", 0), named("a\xc3", 0), named("\xed\xa0\x80", 0), named(strings.Repeat("a", 256), 0), named(strings.Repeat("é", 128), 0), named(strings.Repeat("a", 1<<20), 0),
		num(-1, 0), num(most+1, 0), num(math.MinInt64, 0), num(math.MaxInt64, 0), num(-most, 0), num(-most-1, 0),
		vari("", 0), vari("x", 0), vari("1", 0), vari("@", 0), vari("X ", 0), vari(" X", 0), vari("X Y", 0), vari("X\n", 0), vari("X%", 0), vari("X.", 0), vari("Xé", 0), vari("É", 0), vari("X\x00", 0), vari("X-", 0), vari("'X'", 0), vari("end", 0), vari("X\xff", 0), vari("X"+strings.Repeat("y", 255), 0), vari(strings.Repeat("_", 1<<20), 0),
		word("", 0), word("a", 0), word("en", 0), word("ends", 0), word("End", 0), word("END", 0), word("end ", 0), word(" end", 0), word("end.", 0), word("end end", 0), word("'end'", 0), word("X", 0), word("=", 0), word("5", 0), word("maybe", 0), word(strings.Repeat("end", 1000), 0),
		sign("", 0), sign("<-", 0), sign("<=", 0), sign("=>", 0), sign("=:", 0), sign("=/", 0), sign("||", 0), sign("::", 0), sign("( ", 0), sign(" (", 0), sign("()", 0), sign(".", 0), sign("#", 0), sign("$", 0), sign("'", 0), sign("a", 0), sign("end", 0), sign("\"", 0), sign("%", 0), sign("?", 0), sign("--->", 0), sign("=:==", 0), sign(strings.Repeat("(", 1<<20), 0),
	}
	for kind := api.TokenKind(-2); kind < 12; kind++ {
		for _, text := range []string{"", ".", "a", "X", "end", "(", "5", " ", "\n"} {
			for _, n := range []int64{0, 1, -1, 5, most, most + 1, math.MinInt64} {
				one := api.Token{Kind: kind, Text: text, Int: n}
				writes(t, one)
				if kind < 1 || kind > 6 || (kind == api.TDot || kind == api.TInt) && text != "" || kind != api.TInt && n != 0 {
					wrong = append(wrong, one)
				}
			}
		}
	}
	wrong = append(wrong, api.Token{Kind: math.MaxInt, Text: "a"}, api.Token{Kind: math.MinInt, Text: "a"}, api.Token{Kind: 257, Text: "a"}, api.Token{Kind: 1 << 32, Text: "a"}, api.Token{Kind: 1<<32 + 1, Text: "a"})
	for _, one := range wrong {
		got, err := lex.Write(one)
		refused(t, "Write("+show(one)+")", err, fault(0, api.ErrArg))
		if got != "" {
			t.Errorf("Write(%s) = %s beside its error", show(one), show(got))
		}
		writes(t, one)
	}
}

// P10.2: all short texts, as every kind of token.
func TestWriteShortTexts(t *testing.T) {
	const alphabet = "aX_1@=:</>-+( .'%$\n\xc3\xa9\x00"
	for kind := api.TokenKind(0); kind <= 7; kind++ {
		for b := range 256 {
			writes(t, api.Token{Kind: kind, Text: string([]byte{byte(b)})})
			writes(t, api.Token{Kind: kind, Text: "X" + string([]byte{byte(b)})})
			writes(t, api.Token{Kind: kind, Text: "end" + string([]byte{byte(b)})})
		}
		for _, a := range alphabet {
			for _, b := range alphabet {
				for _, c := range alphabet {
					writes(t, api.Token{Kind: kind, Text: string([]rune{a, b, c})})
				}
			}
		}
		for _, a := range pieces {
			writes(t, api.Token{Kind: kind, Text: a})
		}
	}
}

// P10.3: the chapter's example 3; no token, one, many.
func TestJoin(t *testing.T) {
	for _, c := range []struct {
		l    []api.Token
		want string
	}{
		{nil, ""}, {[]api.Token{}, ""}, {[]api.Token{dot(5)}, ". "}, {[]api.Token{named("x", 0), sign("-", 0), num(5, 0)}, "x - 5 "},
		{[]api.Token{named("f", 9), sign("(", 8), vari("X", 7), sign(")", 6), word("when", 0), named("a b", -1), sign("->", 0), num(0, 0), dot(0)}, "f ( X ) when 'a b' -> 0 . "},
		{[]api.Token{sign("=", 0), sign("=", 0), sign(":", 0), sign("=", 0)}, "= = : = "}, {[]api.Token{num(2, 0), num(1, 0)}, "2 1 "}, {[]api.Token{dot(0), dot(0)}, ". . "},
	} {
		if got, err := lex.Join(c.l); got != c.want || err != nil {
			t.Errorf("Join(%s) = %s, %v, want %q", show(c.l), show(got), err, c.want)
		}
		joins(t, c.l)
	}
}

// P10.3: the first that is no token, and its place.
func TestJoinRefuses(t *testing.T) {
	wrong := []api.Token{{}, vari("x", 0), num(-1, 5), sign("<-", 0), {Kind: api.TDot, Text: "."}, named("\xff", 0), word("a", 0), {Kind: api.TVar, Text: "X", Int: 1}}
	for _, a := range wrong {
		for _, b := range wrong {
			for n := range 6 {
				l := slices.Repeat([]api.Token{named("ok", 0)}, 6)
				l[n] = a
				if n+2 < len(l) {
					l[n+2] = b
				}
				got, err := lex.Join(l)
				refused(t, "Join("+show(l)+")", err, fault(n, api.ErrArg))
				if got != "" {
					t.Errorf("Join(%s) = %s beside its error", show(l), show(got))
				}
				joins(t, l)
			}
		}
	}
}

// P10.3: 65536 bytes, and one more; what is no token counts first, wherever it stands.
func TestJoinLong(t *testing.T) {
	full := slices.Repeat([]api.Token{dot(0)}, 32768)
	text, err := lex.Join(full)
	if err != nil || len(text) != 65536 || strings.Count(text, ". ") != 32768 {
		t.Errorf("%d bytes, %v", len(text), err)
	}
	long := slices.Repeat([]api.Token{named(strings.Repeat("\x01", 255), 0)}, 1000)
	for _, l := range [][]api.Token{
		append(slices.Clone(full), dot(0)), append(slices.Clone(full[1:]), sign("->", 0)), append([]api.Token{num(10, 0)}, full[1:]...), append(slices.Clone(full), full...),
		long, long[:65], append(slices.Clone(full[:32767]), named("A", 0), dot(0)),
	} {
		got, err := lex.Join(l)
		refused(t, "Join of many tokens", err, fault(0, api.ErrLong))
		if got != "" {
			t.Errorf("%d bytes beside an error", len(got))
		}
		joins(t, l)
		got, err = lex.Join(append(slices.Clone(l), api.Token{}))
		refused(t, "Join of many tokens and one that is none", err, fault(len(l), api.ErrArg))
		if got != "" {
			t.Errorf("%d bytes beside an error", len(got))
		}
	}
	for n := 60; n < 70; n++ {
		joins(t, append(slices.Clone(long[:64]), full[:(65536-64*1023)/2+n-65]...))
		joins(t, long[:n])
	}
	joins(t, append(slices.Clone(full[:32767]), vari("X", 0)))
	joins(t, append(slices.Clone(full[:32767]), vari("Xy", 0)))
	joins(t, append([]api.Token{vari("Xyz", 0)}, full[:32766]...))
	joins(t, append([]api.Token{vari("Xyz", 0)}, full[:32767]...))
}

// P10.3: tokens of all kinds, some of which are none.
func TestJoinMany(t *testing.T) {
	r := rand.New(rand.NewSource(3))
	for range 20000 {
		l := make([]api.Token, r.Intn(12))
		for i := range l {
			l[i] = someToken(r)
			if r.Intn(30) == 0 {
				l[i].Int--
			}
		}
		joins(t, l)
	}
}

// P10.4: every place of every text of some bytes, held against a count.
func TestPlace(t *testing.T) {
	if line, column, err := lex.Place("a\nbc", 3); line != 2 || column != 2 || err != nil {
		t.Errorf("Place: %d, %d, %v", line, column, err)
	}
	var all func(s string, more int)
	all = func(s string, more int) {
		line, column := 1, 1
		for at := 0; at <= len(s); at++ {
			if l, c, err := lex.Place(s, at); l != line || c != column || err != nil {
				t.Errorf("Place(%q, %d) = %d, %d, %v, want %d, %d", s, at, l, c, err, line, column)
			}
			column++
			if at < len(s) && s[at] == 10 {
				line, column = line+1, 1
			}
		}
		for _, at := range []int{-1, len(s) + 1, -2, len(s) + 2, math.MinInt, math.MaxInt, 1 << 32, -1 << 32} {
			l, c, err := lex.Place(s, at)
			refused(t, "Place("+show(s)+")", err, fault(0, api.ErrRange))
			if l != 0 || c != 0 {
				t.Errorf("Place(%q, %d) = %d, %d beside its error", s, at, l, c)
			}
		}
		for i := 0; more > 0 && i < 4; i++ {
			all(s+"\na\r\xc3"[i:i+1], more-1)
		}
	}
	all("", 6)
	all("é€\n\xff", 2)
}

// P10.4: texts that are longer than a source text may be, and full of byte 10.
func TestPlaceLong(t *testing.T) {
	for _, c := range []struct {
		s                string
		at, line, column int
	}{
		{strings.Repeat("\n", 65536), 65536, 65537, 1}, {strings.Repeat("\n", 65536), 65535, 65536, 1}, {strings.Repeat("a", 65536), 65536, 1, 65537}, {strings.Repeat("a", 65536), 0, 1, 1},
		{strings.Repeat("ab\n", 100000), 299999, 100000, 3}, {strings.Repeat("ab\n", 100000), 300000, 100001, 1}, {"\n" + strings.Repeat("x", 1<<20), 1<<20 + 1, 2, 1<<20 + 1},
	} {
		if l, k, err := lex.Place(c.s, c.at); l != c.line || k != c.column || err != nil {
			t.Errorf("Place(.., %d) = %d, %d, %v, want %d, %d", c.at, l, k, err, c.line, c.column)
		}
	}
}
