package lex_test

import (
	"math/rand"
	"slices"
	"strings"
	"testing"

	"heddle/api"
	"heddle/lex"
)

// back: Scan of Join is the tokens.
func back(t *testing.T, l []api.Token) {
	t.Helper()
	text, err := lex.Join(l)
	if err != nil {
		t.Fatalf("Join(%s): %v", show(l), err)
	}
	again, err := lex.Scan(text)
	if err != nil || !slices.Equal(bare(again), bare(l)) {
		t.Fatalf("Scan(%s) = %s, %v, want %s", show(text), show(again), err, show(l))
	}
}

// P10.5: any two signs and words side by side.
func TestBackPairs(t *testing.T) {
	var all []api.Token
	for _, s := range allSigns {
		all = append(all, sign(s, 0))
	}
	for _, s := range reserved {
		all = append(all, word(s, 0), named(s, 0), named(s+"s", 0))
	}
	all = append(all, dot(0), num(0, 0), num(2, 0), num(576460752303423487, 0), vari("_", 0), vari("X", 0), named("", 0), named("a", 0), named("A", 0), named("'", 0), named("%", 0), named("\n", 0), named("#", 0))
	for _, a := range all {
		back(t, []api.Token{a})
		for _, b := range all {
			back(t, []api.Token{a, b})
			back(t, []api.Token{a, b, a})
		}
	}
	back(t, nil)
	back(t, slices.Repeat([]api.Token{dot(0)}, 32768))
	back(t, slices.Repeat([]api.Token{named(strings.Repeat("\x01", 255), 0)}, 64))
}

// P10.5: tokens of all kinds.
func TestBack(t *testing.T) {
	r := rand.New(rand.NewSource(5))
	for range 20000 {
		l := make([]api.Token, r.Intn(20))
		for i := range l {
			l[i] = someToken(r)
		}
		back(t, l)
	}
}

// gaps: blanks and comments that may stand between tokens; a comment that does not end only behind the last one.
var gaps = []string{" ", "\t", "\n", "\r", "\r\n", "  ", "%\n", "% a . ' $ \" #\n", "\n%\xff\xc3\n\t", "%%%\n%\n ", " %X"}

// P10.6: blanks and comments ahead of, between and behind tokens change nothing but places.
func TestBlanks(t *testing.T) {
	r := rand.New(rand.NewSource(6))
	for range 20000 {
		s := goodText(r, 10)
		l, err := lex.Scan(s)
		if err != nil {
			t.Fatalf("Scan(%s): %v", show(s), err)
		}
		var wide strings.Builder
		var want []api.Token
		for i, one := range l {
			end := len(s)
			if i+1 < len(l) {
				end = l[i+1].At
			}
			for range r.Intn(3) {
				wide.WriteString(gaps[r.Intn(len(gaps)-1)])
			}
			if i == 0 {
				wide.WriteString(s[:one.At])
			}
			one.At = wide.Len()
			want = append(want, one)
			wide.WriteString(s[l[i].At:end]) // and what stands behind it already
			if strings.Contains(s[l[i].At:end], "%") {
				wide.WriteString("\n") // it may be a comment that does not end
			}
		}
		got, err := lex.Scan(wide.String())
		if err != nil || !slices.Equal(got, want) {
			t.Fatalf("Scan(%s) = %s, %v, want %s", show(wide.String()), show(got), err, show(want))
		}
	}
}

// P10.6: every gap between any two tokens, and behind the last one.
func TestGaps(t *testing.T) {
	all := []string{"a", "X", "12", "$a", "'a b'", "end", ".", "=", "=:=", "16#ff", `$\x41`, "->", "-", "$ ", "$%"}
	for _, a := range all {
		for _, b := range all {
			for i, gap := range gaps {
				first, _ := lex.Scan(a)
				second, _ := lex.Scan(b)
				if i == len(gaps)-1 {
					tells(t, a+gap, first[0])
					gap += "\n"
				}
				second[0].At = len(a) + len(gap)
				tells(t, a+gap+b, first[0], second[0])
				tells(t, a+gap+b+gap, first[0], second[0])
			}
		}
	}
}

// P10.7: a text that is scanned, with a blank and any text behind it, has its tokens first.
func TestBeginning(t *testing.T) {
	r := rand.New(rand.NewSource(7))
	scanned := 0
	for range 40000 {
		s, behind := goodText(r, 8), someText(r, 4)
		if r.Intn(2) == 0 {
			behind = goodText(r, 6)
		}
		first, err := lex.Scan(s)
		if err != nil {
			t.Fatalf("Scan(%s): %v", show(s), err)
		}
		all := s + string("\t\n\r "[r.Intn(4)]) + behind
		l, err := lex.Scan(all)
		switch f, ok := err.(*api.Fault); {
		case err == nil && (len(l) < len(first) || !slices.Equal(l[:len(first)], first)):
			t.Fatalf("Scan(%s) = %s, want first %s", show(all), show(l), show(first))
		case err == nil:
			scanned++
		case !ok || f.At <= len(s):
			t.Fatalf("Scan(%s): %v, but its first %d bytes are scanned", show(all), err, len(s))
		}
	}
	if scanned < 10000 {
		t.Errorf("only %d texts were scanned", scanned)
	}
}

// Rule 4: a list that was handed in is not changed, nor kept.
func TestJoinMemory(t *testing.T) {
	l := []api.Token{named("a b", 3), num(5, 1), dot(2), vari("X", 9)}
	handed := slices.Clone(l)
	first, err := lex.Join(handed[:2:4])
	if err != nil || first != "'a b' 5 " || !slices.Equal(handed, l) {
		t.Errorf("%q, %v; handed in: %s", first, err, show(handed))
	}
	for i := range handed {
		handed[i] = api.Token{}
	}
	second, err := lex.Join(l)
	if err != nil || first != "'a b' 5 " || second != "'a b' 5 . X " {
		t.Errorf("%q, %q, %v", first, second, err)
	}
}
