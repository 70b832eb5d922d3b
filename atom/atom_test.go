package atom_test

import (
	"errors"
	"fmt"
	"slices"
	"strings"
	"testing"

	"heddle/api"
	"heddle/atom"
)

// refused: err is a fault of layer atom with that number at that place, and nothing lies under it.
func refused(t *testing.T, what string, err error, code api.Errno, at int) {
	t.Helper()
	var f *api.Fault
	if !errors.As(err, &f) {
		t.Errorf("%s: %v, want errno %d at %d", what, err, code, at)
		return
	}
	if want := (api.Fault{Layer: "atom", At: at, Code: code}); *f != want {
		t.Errorf("%s: %v, want errno %d at %d", what, err, code, at)
	}
	if !errors.Is(err, code) {
		t.Errorf("%s: errors.Is does not find errno %d in %v", what, code, err)
	}
}

// codePoints: bytes of the ends of the code points' ranges, and where the first wrong byte stands (-1: they are UTF-8).
var codePoints = []struct {
	bytes string
	fault int
}{
	{"\x00", -1}, {"\x7f", -1},
	{"\xc2\x80", -1}, {"\xdf\xbf", -1},
	{"\xe0\xa0\x80", -1}, {"\xed\x9f\xbf", -1}, {"\xee\x80\x80", -1}, {"\xef\xbf\xbd", -1}, {"\xef\xbf\xbf", -1},
	{"\xf0\x90\x80\x80", -1}, {"\xf4\x8f\xbf\xbf", -1},
	{"\xed\xa0\x80", 0}, {"\xed\xbf\xbf", 0}, {"\xed\xaf\xbf", 0}, {"\xed\xb0\x80", 0}, // D800, DFFF, DBFF, DC00
	{"\xf4\x90\x80\x80", 0}, {"\xf5\x80\x80\x80", 0}, {"\xf8\x88\x80\x80\x80", 0}, // above 10FFFF
	{"\xc0\x80", 0}, {"\xc1\xbf", 0}, {"\xe0\x80\x80", 0}, {"\xe0\x9f\xbf", 0}, {"\xf0\x80\x80\x80", 0}, {"\xf0\x8f\xbf\xbf", 0}, // too long a form
	{"\x80", 0}, {"\xbf", 0}, {"\xfe", 0}, {"\xff", 0},
	{"\xc3", 0}, {"\xe2\x82", 0}, {"\xf0\x9f\x98", 0}, {"\xe2\x82a", 0}, {"\xc3\xc3\xa9", 0}, // cut short
	{"\xc3\xa9\x80", 2}, {"\xef\xbf\xbd\xff", 3}, {"ab\xe2\x82\xac\xed\xa0\x80", 5}, {"\xf0\x9f\x98\x80\xf0\x9f", 4},
}

// P1.1
func TestValid(t *testing.T) {
	for _, c := range codePoints {
		for _, around := range []struct{ ahead, behind string }{{"", ""}, {"ab", ""}, {"", "z"}, {"é", "é"}} {
			s := around.ahead + c.bytes + around.behind
			if got, want := atom.Valid(s), c.fault < 0; got != want {
				t.Errorf("Valid(%q) = %v", s, got)
			}
		}
	}
	for _, c := range []struct {
		s    string
		want bool
	}{
		{"", true}, {"abc", true}, {"end", true}, {"a b", true},
		{strings.Repeat("x", api.MaxAtom-1), true}, {strings.Repeat("x", api.MaxAtom), true}, {strings.Repeat("x", api.MaxAtom+1), false},
		{strings.Repeat("é", 127) + "x", true}, {strings.Repeat("é", 128), false}, // bytes are counted, not code points
		{strings.Repeat("€", 85), true}, {strings.Repeat("€", 85) + "x", false},
		{strings.Repeat("\x00", api.MaxAtom), true}, {strings.Repeat("x", 1<<16), false},
	} {
		if got := atom.Valid(c.s); got != c.want {
			t.Errorf("Valid of %d bytes %.8q.. = %v", len(c.s), c.s, got)
		}
	}
}

// P1.1: every code point, in its shortest form.
func TestValidCodePoints(t *testing.T) {
	for r := rune(0); r <= 0x10ffff+1; r++ {
		b := encode(r)
		want := r <= 0x10ffff && (r < 0xd800 || r > 0xdfff)
		if got := atom.Valid(b); got != want {
			t.Fatalf("Valid of code point %x = %v", r, got)
		}
	}
}

// encode writes any number below 2^21 in UTF-8's shortest form, also those that are no code points.
func encode(r rune) string {
	switch {
	case r < 0x80:
		return string([]byte{byte(r)})
	case r < 0x800:
		return string([]byte{0xc0 | byte(r>>6), 0x80 | byte(r&63)})
	case r < 0x10000:
		return string([]byte{0xe0 | byte(r>>12), 0x80 | byte(r>>6&63), 0x80 | byte(r&63)})
	}
	return string([]byte{0xf0 | byte(r>>18), 0x80 | byte(r>>12&63), 0x80 | byte(r>>6&63), 0x80 | byte(r&63)})
}

var reserved = strings.Fields("after and andalso begin case catch div end fun if not of or orelse receive rem try when xor")

// P1.2
func TestQuote(t *testing.T) {
	cases := []struct{ s, want string }{
		{"abc", "abc"}, {"Abc", "'Abc'"}, {"end", "'end'"}, {"", "''"}, {"it's", `'it\'s'`}, {"\x07", `'\x07'`},
		{"a", "a"}, {"z", "z"}, {"aZ09_@", "aZ09_@"}, {"ends", "ends"}, {"End", "'End'"}, {"a@b", "a@b"},
		{"_a", "'_a'"}, {"@a", "'@a'"}, {"0a", "'0a'"}, {"A", "'A'"}, {"`", "'`'"}, {"{", "'{'"},
		{"a b", "'a b'"}, {"a-b", "'a-b'"}, {"a.b", "'a.b'"}, {"aé", "'aé'"}, {"é", "'é'"}, {"a\x00", `'a\x00'`},
		{"\n\t\r", `'\n\t\r'`}, {`\`, `'\\'`}, {`\n`, `'\\n'`}, {"'", `'\''`}, {"''", `'\'\''`}, {`"`, `'"'`},
		{"\x01\x0b\x1f\x7f", `'\x01\x0b\x1f\x7f'`}, {" ~", "' ~'"},
		{"\u0080\u009f", "'\u0080\u009f'"}, {"\ufffd", "'\ufffd'"}, {"\U0010ffff", "'\U0010ffff'"},
		{strings.Repeat("x", api.MaxAtom), strings.Repeat("x", api.MaxAtom)},
		{strings.Repeat("X", api.MaxAtom), "'" + strings.Repeat("X", api.MaxAtom) + "'"},
		{strings.Repeat("\x01", api.MaxAtom), "'" + strings.Repeat(`\x01`, api.MaxAtom) + "'"},
	}
	for _, w := range reserved {
		cases = append(cases, struct{ s, want string }{w, "'" + w + "'"}, struct{ s, want string }{w + "_", w + "_"})
	}
	for _, c := range cases {
		if got, err := atom.Quote(c.s); got != c.want || err != nil {
			t.Errorf("Quote(%q) = %s, %v, want %s", c.s, got, err, c.want)
		}
	}
}

// P1.2: each byte by itself, and behind a letter.
func TestQuoteBytes(t *testing.T) {
	short := map[byte]string{'\'': `\'`, '\\': `\\`, 10: `\n`, 9: `\t`, 13: `\r`}
	for b := range 128 {
		c := byte(b)
		written, ok := short[c]
		if !ok {
			written = string(rune(c))
			if c < 32 || c == 127 {
				written = fmt.Sprintf(`\x%02x`, c)
			}
		}
		first, other := "'"+written+"'", "'a"+written+"'"
		if strings.IndexByte("abcdefghijklmnopqrstuvwxyz", c) >= 0 {
			first = written
		}
		if strings.IndexByte("abcdefghijklmnopqrstuvwxyzABCDEFGHIJKLMNOPQRSTUVWXYZ0123456789_@", c) >= 0 {
			other = "a" + written
		}
		if got, err := atom.Quote(string(rune(c))); got != first || err != nil {
			t.Errorf("Quote of byte %d = %s, %v", c, got, err)
		}
		if got, err := atom.Quote("a" + string(rune(c))); got != other || err != nil {
			t.Errorf("Quote of a and byte %d = %s, %v", c, got, err)
		}
	}
}

// P1.2: what is refused, and where.
func TestQuoteRefuses(t *testing.T) {
	for _, c := range codePoints {
		if c.fault < 0 {
			continue
		}
		for _, ahead := range []string{"", "ab", "é€", "\ufffd", " '\\\n"} {
			s := ahead + c.bytes
			got, err := atom.Quote(s)
			refused(t, fmt.Sprintf("Quote(%q)", s), err, api.ErrUTF, len(ahead)+c.fault)
			if got != "" {
				t.Errorf("Quote(%q) answers %q beside its error", s, got)
			}
		}
	}
	for _, s := range []string{
		strings.Repeat("x", api.MaxAtom+1), strings.Repeat("é", 128), strings.Repeat("x", 1<<20),
		strings.Repeat("\xff", api.MaxAtom+1), "\xff" + strings.Repeat("x", api.MaxAtom), // too long comes first
	} {
		got, err := atom.Quote(s)
		refused(t, fmt.Sprintf("Quote of %d bytes", len(s)), err, api.ErrLong, 0)
		if got != "" {
			t.Errorf("Quote of %d bytes answers %q beside its error", len(s), got)
		}
	}
	_, err := atom.Quote(strings.Repeat("x", api.MaxAtom-1) + "\xff")
	refused(t, "Quote, the last byte wrong", err, api.ErrUTF, api.MaxAtom-1)
	_, err = atom.Quote(strings.Repeat("\xff", api.MaxAtom))
	refused(t, "Quote, all bytes wrong", err, api.ErrUTF, 0)
}

// orderedTexts are texts in their order, those that are no atoms' among them.
func orderedTexts() []string {
	return []string{
		"", "\x00", "\x00\x00", "\x01", " ", "A", "Z", "_", "a", "a\x00", "aa", "ab", "abc", "b", "end", "z", "\x7f",
		"\x80", "\u0080", "é", "éa", "\xc3\xff", "\u07ff", "\u0800", "€", "\ud7ff", "\xed\xa0\x80", "\ue000", "\ufffd", "\uffff",
		"\U00010000", "\U0010ffff", "\xf4\x90\x80\x80", "\xff", "\xff\xff",
	}
}

// P1.4, P1.9
func TestCompare(t *testing.T) {
	texts := orderedTexts()
	long := strings.Repeat("x", api.MaxAtom)
	at, _ := slices.BinarySearch(texts, long)
	texts = slices.Insert(texts, at, long, long+"x", long+"y")
	for i, a := range texts {
		for j, b := range texts {
			want := 0
			if i < j {
				want = -1
			} else if i > j {
				want = 1
			}
			if got := atom.Compare(a, b); got != want {
				t.Errorf("Compare(%.12q, %.12q) = %d, want %d", a, b, got, want)
			}
		}
	}
}

// P1.4: of atoms the order is that of their code points.
func TestCompareByCodePoints(t *testing.T) {
	var atoms []string
	points := []rune{0, 1, 'A', 'a', 0x7f, 0x80, 0x7ff, 0x800, 0xd7ff, 0xe000, 0xfffd, 0xffff, 0x10000, 0x10ffff}
	for _, p := range points {
		atoms = append(atoms, string(p))
		for _, q := range points {
			atoms = append(atoms, string([]rune{p, q}))
		}
	}
	for _, a := range atoms {
		for _, b := range atoms {
			if got, want := atom.Compare(a, b), slices.Compare([]rune(a), []rune(b)); got != want {
				t.Fatalf("Compare(%q, %q) = %d, want %d", a, b, got, want)
			}
		}
	}
}

// P1.9: just one of two is ahead, or they are the same; what is ahead of one ahead is ahead. All texts of up to two bytes of these.
func TestCompareIsAnOrder(t *testing.T) {
	bytes := []byte{0, 'a', 'b', 0x7f, 0x80, 0xa9, 0xc3, 0xe2, 0xed, 0xff}
	texts := []string{""}
	for _, x := range bytes {
		texts = append(texts, string([]byte{x}))
		for _, y := range bytes {
			texts = append(texts, string([]byte{x, y}))
		}
	}
	for _, a := range texts {
		for _, b := range texts {
			ab := atom.Compare(a, b)
			if ab < -1 || ab > 1 || ab != -atom.Compare(b, a) || (ab == 0) != (a == b) {
				t.Fatalf("Compare(%q, %q) = %d, the other way %d", a, b, ab, atom.Compare(b, a))
			}
			if ab > 0 {
				continue
			}
			for _, c := range texts {
				if atom.Compare(b, c) <= 0 && atom.Compare(a, c) > 0 {
					t.Fatalf("%q, %q, %q: each ahead of the next, the first not ahead of the last", a, b, c)
				}
			}
		}
	}
}
