package lex_test

import (
	"errors"
	"fmt"
	"math/big"
	"math/rand"
	"regexp"
	"slices"
	"strconv"
	"strings"
	"testing"
	"unicode/utf8"

	"heddle/api"
	"heddle/atom"
	"heddle/lex"
	"heddle/sample"
)

// The chapter's words once more, as patterns; what is an atom is asked of package atom, as the chapter does.
var (
	reserved = strings.Fields("after and andalso begin case catch div end fun if not of or orelse receive rem try when xor")
	allSigns = strings.Fields("( ) [ ] { } , ; : | -> ! = + - * / == /= =< < >= > =:= =/= ++ --")

	between   = regexp.MustCompile(`^(?:[\t\n\r ]|%[^\n]*)*`)
	wordHere  = regexp.MustCompile(`^[a-zA-Z0-9_@]+`)
	intHere   = regexp.MustCompile(`^([0-9]+)(?:(#)([0-9a-zA-Z]*))?`)
	charHere  = regexp.MustCompile(`^\$(?:([^\\\x00-\x1f\x7f])|\\([ntrs\\'"])|\\x([0-9a-fA-F]{2}))`)
	dotHere   = regexp.MustCompile(`^\.(?:[\t\n\r %]|\z)`)
	signHere  = longest(allSigns)
	wholeVar  = regexp.MustCompile(`^[A-Z_][a-zA-Z0-9_@]{0,254}\z`)
	escapedAs = map[string]int64{"n": 10, "t": 9, "r": 13, "s": 32, `\`: 92, "'": 39, `"`: 34}
)

// longest: a pattern of the longest of some texts.
func longest(texts []string) *regexp.Regexp {
	var quoted []string
	for _, s := range texts {
		quoted = append(quoted, regexp.QuoteMeta(s))
	}
	p := regexp.MustCompile("^(?:" + strings.Join(quoted, "|") + ")")
	p.Longest()
	return p
}

// A fault and what lies under it; nil: none.
type chain []api.Fault

func fault(at int, code api.Errno) chain { return chain{{Layer: "lex", At: at, Code: code}} }

// modelScan: the tokens of a text, or the first fault.
func modelScan(s string) ([]api.Token, chain) {
	if len(s) > 65536 {
		return nil, fault(0, api.ErrLong)
	}
	var all []api.Token
	for at := len(between.FindString(s)); at < len(s); at += len(between.FindString(s[at:])) {
		t, width, wrong := modelToken(s, at)
		if wrong != nil {
			return nil, wrong
		}
		t.At = at
		all, at = append(all, t), at+width
	}
	return all, nil
}

// modelToken: the token that begins at a place, and its width.
func modelToken(s string, at int) (api.Token, int, chain) {
	rest := s[at:]
	word, sign := wordHere.FindString(rest), signHere.FindString(rest)
	switch first := rest[0]; {
	case slices.Contains(reserved, word):
		return api.Token{Kind: api.TWord, Text: word}, len(word), nil
	case first == '\'' || first >= 'a' && first <= 'z':
		text, end, err := atom.Scan(s, at)
		if err != nil {
			under := *err.(*api.Fault)
			return api.Token{}, 0, append(fault(at, under.Code), under)
		}
		return api.Token{Kind: api.TAtom, Text: text}, end - at, nil
	case first == '_' || first >= 'A' && first <= 'Z':
		if !wholeVar.MatchString(word) {
			return api.Token{}, 0, fault(at, api.ErrLong)
		}
		return api.Token{Kind: api.TVar, Text: word}, len(word), nil
	case intHere.MatchString(rest):
		return modelInt(at, intHere.FindStringSubmatch(rest))
	case first == '$':
		return modelChar(at, charHere.FindStringSubmatch(rest))
	case dotHere.MatchString(rest):
		return api.Token{Kind: api.TDot}, 1, nil
	case sign != "":
		return api.Token{Kind: api.TSign, Text: sign}, len(sign), nil
	}
	return api.Token{}, 0, fault(at, api.ErrByte)
}

// modelInt: what the pattern of numbers found: all of it, the first digits, '#', the digits behind it.
func modelInt(at int, found []string) (api.Token, int, chain) {
	n, ok := new(big.Int).SetString(found[1], 10)
	if found[2] != "" {
		if n.Cmp(big.NewInt(2)) < 0 || n.Cmp(big.NewInt(36)) > 0 {
			return api.Token{}, 0, fault(at, api.ErrNumber)
		}
		n, ok = new(big.Int).SetString(found[3], int(n.Int64()))
	}
	if !ok || n.BitLen() > 59 {
		return api.Token{}, 0, fault(at, api.ErrNumber)
	}
	return api.Token{Kind: api.TInt, Int: n.Int64()}, len(found[0]), nil
}

// modelChar: what the pattern of characters found: all of it, a code point, an escape's letter, its digits.
func modelChar(at int, found []string) (api.Token, int, chain) {
	var n int64
	switch {
	case found == nil || !utf8.ValidString(found[1]):
		return api.Token{}, 0, fault(at, api.ErrChar)
	case found[1] != "":
		n = int64([]rune(found[1])[0])
	case found[2] != "":
		n = escapedAs[found[2]]
	default:
		n, _ = strconv.ParseInt(found[3], 16, 64)
	}
	return api.Token{Kind: api.TInt, Int: n}, len(found[0]), nil
}

// modelWrite: a token's text; "": it is none.
func modelWrite(t api.Token) string {
	bare := t.Text == "" && t.Int == 0
	switch {
	case t.Kind == api.TDot && bare:
		return "."
	case t.Kind == api.TInt && t.Text == "" && t.Int >= 0 && t.Int <= 1<<59-1:
		return fmt.Sprint(t.Int)
	case t.Kind == api.TAtom && t.Int == 0 && atom.Valid(t.Text):
		text, _ := atom.Quote(t.Text)
		return text
	case t.Int != 0:
		return ""
	case t.Kind == api.TVar && wholeVar.MatchString(t.Text),
		t.Kind == api.TWord && slices.Contains(reserved, t.Text),
		t.Kind == api.TSign && slices.Contains(allSigns, t.Text):
		return t.Text
	}
	return ""
}

// show: what is told of an answer, cut short.
func show(x any) string {
	s := strconv.Quote(fmt.Sprintf("%+v", x))
	if len(s) > 300 {
		return s[:300] + ".."
	}
	return s
}

// refused: err is just that chain of faults. It ends the test if not, as all that follow do: a broken promise is told once, not for each of many texts.
func refused(t *testing.T, what string, err error, want chain) {
	t.Helper()
	if _, ok := err.(*api.Fault); !ok || !sample.IsFault(err, want...) || !errors.Is(err, want[len(want)-1].Code) {
		t.Fatalf("%s: %v, want %+v", what, err, want)
	}
}

// scans: Scan tells of a text what the words say, and the same once more.
func scans(t *testing.T, s string) {
	t.Helper()
	want, wrong := modelScan(s)
	for range 2 {
		got, err := lex.Scan(s)
		if wrong != nil {
			refused(t, "Scan("+show(s)+")", err, wrong)
		} else if err != nil {
			t.Fatalf("Scan(%s): %v", show(s), err)
		}
		if !slices.Equal(got, want) {
			t.Fatalf("Scan(%s) = %s, want %s", show(s), show(got), show(want))
		}
	}
}

// tells: Scan tells just these tokens, and the words say so, too.
func tells(t *testing.T, s string, want ...api.Token) {
	t.Helper()
	if got, err := lex.Scan(s); err != nil || !slices.Equal(got, want) {
		t.Fatalf("Scan(%s) = %s, %v, want %s", show(s), show(got), err, show(want))
	}
	scans(t, s)
}

// refuses: Scan tells just that fault, and the words say so, too.
func refuses(t *testing.T, s string, want ...api.Fault) {
	t.Helper()
	got, err := lex.Scan(s)
	refused(t, "Scan("+show(s)+")", err, want)
	if len(got) != 0 {
		t.Fatalf("Scan(%s) = %s beside its error", show(s), show(got))
	}
	scans(t, s)
}

// faulty: a fault of layer lex, and nothing under it.
func faulty(at int, code api.Errno) api.Fault { return fault(at, code)[0] }

func word(s string, at int) api.Token  { return api.Token{Kind: api.TWord, Text: s, At: at} }
func named(s string, at int) api.Token { return api.Token{Kind: api.TAtom, Text: s, At: at} }
func vari(s string, at int) api.Token  { return api.Token{Kind: api.TVar, Text: s, At: at} }
func sign(s string, at int) api.Token  { return api.Token{Kind: api.TSign, Text: s, At: at} }
func num(n int64, at int) api.Token    { return api.Token{Kind: api.TInt, Int: n, At: at} }
func dot(at int) api.Token             { return api.Token{Kind: api.TDot, At: at} }

// bare: tokens without their places.
func bare(l []api.Token) []api.Token {
	out := slices.Clone(l)
	for i := range out {
		out[i].At = 0
	}
	return out
}

// pieces: parts of texts, right ones and wrong ones, many of which make something else side by side.
var pieces = slices.Concat(reserved, allSigns, []string{
	"a", "f", "end_", "x@y", "aB9", "module", "''", "'a b'", `'it\'s'`, `'\x41'`, "'é'", "'", `'\q'`, "'a\n'", "'\xff'",
	"X", "_", "_a", "Xy@1", "@", "0", "7", "12", "00", "36", "2#", "16#", "36#", "1#", "37#", "0#", "#", "fF", "zZ", "101", "576460752303423487", "576460752303423488",
	"$", "$a", "$ ", "$%", "$.", "$$", "$'", `$\n`, `$\x`, `$\x4A`, `$\q`, `$\`, `\`, "$é", "é", "$\xff", "\xff", "\xc3", "\x00", "\x7f",
	".", ". ", ".\n", ".%", "%", "% a\n", "%'\n", "\n", " ", "\t", "\r", "  ", `"`, "&", "?", "^", "`", "~", "\v",
})

// someText: a text of up to so many pieces.
func someText(r *rand.Rand, most int) string {
	var s strings.Builder
	for range r.Intn(most + 1) {
		s.WriteString(pieces[r.Intn(len(pieces))])
		if r.Intn(3) == 0 {
			s.WriteByte(' ')
		}
	}
	return s.String()
}

// goodText: a text of up to so many pieces that is scanned.
func goodText(r *rand.Rand, most int) string {
	s := ""
	for range r.Intn(most + 1) {
		more := s + pieces[r.Intn(len(pieces))] + strings.Repeat(" ", r.Intn(2))
		if _, wrong := modelScan(more); wrong == nil {
			s = more
		}
	}
	return s
}

// someToken: a token that may be written.
func someToken(r *rand.Rand) api.Token {
	at := r.Intn(100) - 50
	switch r.Intn(7) {
	case 0:
		return word(reserved[r.Intn(len(reserved))], at)
	case 1:
		return sign(allSigns[r.Intn(len(allSigns))], at)
	case 2:
		return num(r.Int63n(1<<uint(1+r.Intn(59))), at)
	case 3:
		return dot(at)
	case 4:
		const bytes = "abzABZ059_@"
		text := []byte{"ABZ_"[r.Intn(4)]}
		for range r.Intn(12) {
			text = append(text, bytes[r.Intn(len(bytes))])
		}
		return vari(string(text), at)
	case 5:
		return named([]string{"", "a", "end", "fun", "A", "_", "a b", "é", "it's", "\x00\n", "%", ". ", "'", `\`, "a@b", "\u0080", "\U0010ffff", "$a", "12"}[r.Intn(19)], at)
	}
	text := make([]rune, r.Intn(10))
	for i := range text {
		text[i] = []rune{'a', 'Z', '0', '_', '\'', '\\', '\n', 0, 127, 0xe9, 0x20ac, 0x1f600}[r.Intn(12)]
	}
	return named(string(text), at)
}
