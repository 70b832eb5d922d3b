package atom_test

import (
	"errors"
	"fmt"
	"math"
	"regexp"
	"strconv"
	"strings"
	"testing"
	"unicode/utf8"

	"heddle/api"
	"heddle/atom"
)

// reads: Scan reads that atom, and ends there.
func reads(t *testing.T, s string, from int, want string, wantEnd int) {
	t.Helper()
	got, end, err := atom.Scan(s, from)
	if got != want || end != wantEnd || err != nil {
		t.Errorf("Scan(%.40q, %d) = %.40q, %d, %v, want %.40q, %d", s, from, got, end, err, want, wantEnd)
	}
}

// refuses: Scan refuses with that number at that place.
func refuses(t *testing.T, s string, from int, code api.Errno, at int) {
	t.Helper()
	got, end, err := atom.Scan(s, from)
	refused(t, fmt.Sprintf("Scan(%.40q, %d)", s, from), err, code, at)
	if got != "" || end != 0 {
		t.Errorf("Scan(%.40q, %d) answers %.40q, %d beside its error", s, from, got, end)
	}
}

// P1.3: where the scan may begin.
func TestScanPlaces(t *testing.T) {
	for _, s := range []string{"", "a", "'a'", "é", "'"} {
		for _, from := range []int{-1, len(s) + 1, len(s) + 2, math.MinInt, math.MaxInt, math.MaxInt32 + 1} {
			refuses(t, s, from, api.ErrRange, 0)
		}
		refuses(t, s, len(s), api.ErrAtom, len(s))
	}
	reads(t, "foo bar", 4, "bar", 7)
	reads(t, "foo", 1, "oo", 3)
	reads(t, "foo", 2, "o", 3)
	reads(t, "bend", 0, "bend", 4)
	refuses(t, "bend", 1, api.ErrAtom, 1)
	reads(t, "''''", 2, "", 4)
}

// P1.3: atoms without quotes.
func TestScanPlain(t *testing.T) {
	reads(t, "foo(X)", 0, "foo", 3)
	reads(t, "a", 0, "a", 1)
	reads(t, "z'a'", 0, "z", 1)
	reads(t, "aB9_@z-", 0, "aB9_@z", 6)
	reads(t, "aé", 0, "a", 1)
	reads(t, "a\xff", 0, "a", 1)
	reads(t, "a\x00", 0, "a", 1)
	reads(t, "end_", 0, "end_", 4)
	reads(t, "endX.", 0, "endX", 4)
	reads(t, "en d", 0, "en", 2)
	for _, w := range reserved {
		refuses(t, w, 0, api.ErrAtom, 0)
		refuses(t, "  "+w+" x", 2, api.ErrAtom, 2)
		reads(t, w+"1", 0, w+"1", len(w)+1)
		reads(t, "'"+w+"'", 0, w, len(w)+2)
	}
	long := strings.Repeat("x", api.MaxAtom)
	reads(t, long, 0, long, api.MaxAtom)
	reads(t, long+" x", 0, long, api.MaxAtom)
	refuses(t, long+"x", 0, api.ErrLong, 0)
	refuses(t, "''"+long+"@", 2, api.ErrLong, 2)
	reads(t, long+"x", 1, long, api.MaxAtom+1)
	refuses(t, strings.Repeat("end", 1000), 0, api.ErrLong, 0)
}

// P1.3: which bytes begin an atom, and which go on with it.
func TestScanBytes(t *testing.T) {
	const first = "abcdefghijklmnopqrstuvwxyz"
	const others = first + "ABCDEFGHIJKLMNOPQRSTUVWXYZ0123456789_@"
	for b := range 256 {
		c := string([]byte{byte(b)})
		switch {
		case strings.Contains(first, c):
			reads(t, " "+c, 1, c, 2)
		case c == "'":
			refuses(t, " "+c, 1, api.ErrQuote, 1)
		default:
			refuses(t, " "+c, 1, api.ErrAtom, 1)
		}
		if strings.Contains(others, c) {
			reads(t, "q"+c, 0, "q"+c, 2)
		} else {
			reads(t, "q"+c, 0, "q", 1)
		}
		switch {
		case c == "'":
			reads(t, "'"+c+"'", 0, "", 2)
		case c == `\`:
			refuses(t, "'"+c+"'", 0, api.ErrQuote, 0) // the quote behind it is escaped
		case b < 32 || b == 127:
			refuses(t, "'"+c+"'", 0, api.ErrQuote, 0)
		case b >= 128:
			refuses(t, "'"+c+"'", 0, api.ErrUTF, 0)
		default:
			reads(t, "'"+c+"'", 0, c, 3)
		}
	}
}

// P1.3: atoms in quotes.
func TestScanQuoted(t *testing.T) {
	reads(t, "'a b'.", 0, "a b", 5)
	reads(t, "''", 0, "", 2)
	reads(t, "'''", 0, "", 2)
	reads(t, "f('Abc')", 2, "Abc", 7)
	reads(t, `'it\'s'`, 0, "it's", 7)
	reads(t, `'\\'`, 0, `\`, 4)
	reads(t, `'\\''`, 0, `\`, 4)
	reads(t, `'\n\t\r'`, 0, "\n\t\r", 8)
	reads(t, `'\x07\x7f\x1F'`, 0, "\x07\x7f\x1f", 14)
	reads(t, `'\xC3\xa9'`, 0, "é", 10) // the escapes' bytes together are UTF-8
	reads(t, "'\xc3\\xa9'", 0, "é", 7)
	reads(t, `'\x41\x00'`, 0, "A\x00", 10)
	reads(t, "'é€\ufffd'", 0, "é€\ufffd", 10)
	reads(t, "'%'", 0, "%", 3)
	refuses(t, "'a", 0, api.ErrQuote, 0)
	refuses(t, "'", 0, api.ErrQuote, 0)
	refuses(t, `'a\'`, 0, api.ErrQuote, 0)
	refuses(t, "f('a", 2, api.ErrQuote, 2)
	refuses(t, "'a\n'", 0, api.ErrQuote, 0)
	refuses(t, "'a\x7f'", 0, api.ErrQuote, 0)
}

// P1.3: each byte behind a backslash.
func TestScanEscapes(t *testing.T) {
	known := map[byte]string{'\'': "'", '\\': `\`, 'n': "\n", 't': "\t", 'r': "\r"}
	for b := range 256 {
		s := "ab 'cd\\" + string([]byte{byte(b)}) + "e'"
		if text, ok := known[byte(b)]; ok {
			reads(t, s, 3, "cd"+text+"e", len(s))
		} else {
			refuses(t, s, 3, api.ErrEscape, 6)
		}
	}
	refuses(t, `'a\q'`, 0, api.ErrEscape, 2)
	for _, s := range []string{`'\x'`, `'\x4'`, `'\x4g'`, `'\xg4'`, `'\X41'`, `'\x 1'`, `'\x+1'`, `'\`, `'\x`, `'\x4`, `'\N'`, `'\0'`, "'\\\n'"} {
		refuses(t, s, 0, api.ErrEscape, 1)
	}
}

// P1.3: each two bytes behind \x.
func TestScanHex(t *testing.T) {
	for high := range 256 {
		for low := range 256 {
			s := `'\x` + string([]byte{byte(high), byte(low)}) + `'`
			n, err := strconv.ParseUint(s[3:5], 16, 8)
			switch {
			case err != nil:
				refuses(t, s, 0, api.ErrEscape, 1)
			case n >= 128:
				refuses(t, s, 0, api.ErrUTF, 0)
			default:
				reads(t, s, 0, string(rune(n)), 6)
			}
		}
	}
}

// P1.3: of several faults the first from the left; these ahead of the length, the length ahead of UTF-8.
func TestScanWhichFault(t *testing.T) {
	long := strings.Repeat("x", api.MaxAtom+1)
	refuses(t, `'a\q`, 0, api.ErrEscape, 2)
	refuses(t, "'a\\q\n'", 0, api.ErrEscape, 2)
	refuses(t, "'a\n\\q'", 0, api.ErrQuote, 0)
	refuses(t, `'\q\z'`, 0, api.ErrEscape, 1)
	refuses(t, `'a'\q`, 3, api.ErrAtom, 3)
	reads(t, `'a'\q`, 0, "a", 3)
	refuses(t, "'"+long+`\q'`, 0, api.ErrEscape, len(long)+1)
	refuses(t, "'"+long, 0, api.ErrQuote, 0)
	refuses(t, "'"+long+"\x00'", 0, api.ErrQuote, 0)
	refuses(t, "'\xff"+`\q'`, 0, api.ErrEscape, 2)
	refuses(t, "'\xff", 0, api.ErrQuote, 0)
	refuses(t, "''  '"+long+"'", 4, api.ErrLong, 4)
	refuses(t, "'"+long+"\xff'", 0, api.ErrLong, 0)
	refuses(t, "'\xff"+long+"'", 0, api.ErrLong, 0)
	refuses(t, "''  'abc\xffd'", 4, api.ErrUTF, 4)
	refuses(t, `''  'abc\xffd'`, 4, api.ErrUTF, 4)
	refuses(t, "'\xff\xc3", 0, api.ErrQuote, 0)
}

// P1.3: bytes are counted as the escapes say them.
func TestScanQuotedLength(t *testing.T) {
	reads(t, "'"+strings.Repeat("X", api.MaxAtom)+"'", 0, strings.Repeat("X", api.MaxAtom), api.MaxAtom+2)
	reads(t, "'"+strings.Repeat(`\x01`, api.MaxAtom)+"'", 0, strings.Repeat("\x01", api.MaxAtom), 4*api.MaxAtom+2)
	reads(t, "'"+strings.Repeat(`\n`, api.MaxAtom)+"'", 0, strings.Repeat("\n", api.MaxAtom), 2*api.MaxAtom+2)
	refuses(t, "'"+strings.Repeat("X", api.MaxAtom+1)+"'", 0, api.ErrLong, 0)
	refuses(t, "'"+strings.Repeat(`\x01`, api.MaxAtom+1)+"'", 0, api.ErrLong, 0)
	refuses(t, "'"+strings.Repeat("é", 128)+"'", 0, api.ErrLong, 0)
	reads(t, "'"+strings.Repeat("é", 127)+"x'", 0, strings.Repeat("é", 127)+"x", api.MaxAtom+2)
	for _, c := range codePoints {
		s := "'" + c.bytes + "'"
		switch {
		case c.fault >= 0:
			refuses(t, s, 0, api.ErrUTF, 0)
		case c.bytes[0] < 32 || c.bytes[0] == 127:
			refuses(t, s, 0, api.ErrQuote, 0)
		default:
			reads(t, s, 0, c.bytes, len(s))
		}
	}
}

var quotedItems = regexp.MustCompile(`^(?:[^'\\\x00-\x1f\x7f]|\\['\\ntr]|\\x[0-9a-fA-F]{2})*`)
var quotedEscape = regexp.MustCompile(`\\(?:['\\ntr]|x[0-9a-fA-F]{2})`)

// expect tells by patterns what Scan of a short text that begins with a quote must answer.
func expect(s string) (text string, end int, code api.Errno, at int) {
	items := quotedItems.FindString(s[1:])
	rest := s[1+len(items):]
	if strings.HasPrefix(rest, `\`) {
		return "", 0, api.ErrEscape, 1 + len(items)
	}
	if !strings.HasPrefix(rest, "'") {
		return "", 0, api.ErrQuote, 0
	}
	text = quotedEscape.ReplaceAllStringFunc(items, func(e string) string {
		switch e[1] {
		case 'n', 't', 'r':
			return map[byte]string{'n': "\n", 't': "\t", 'r': "\r"}[e[1]]
		case 'x':
			n, _ := strconv.ParseUint(e[2:], 16, 8)
			return string([]byte{byte(n)})
		}
		return e[1:]
	})
	if !utf8.ValidString(text) {
		return "", 0, api.ErrUTF, 0
	}
	return text, len(items) + 2, 0, 0
}

// P1.3, P1.8: all texts of up to six pieces of these behind a quote.
func TestScanAllShort(t *testing.T) {
	pieces := []string{"'", `\`, "x", "n", "4", "C3", "A9", "é", "\xa9", "\n", " "}
	var walk func(s string, left int)
	walk = func(s string, left int) {
		text, end, code, at := expect(s)
		got, gotEnd, err := atom.Scan(s, 0)
		var f *api.Fault
		if errors.As(err, &f) != (code != 0) || got != text || gotEnd != end || f != nil && (f.Code != code || f.At != at) {
			t.Errorf("Scan(%q, 0) = %q, %d, %v, want %q, %d, %d at %d", s, got, gotEnd, err, text, end, code, at)
		}
		if err == nil && !atom.Valid(got) {
			t.Errorf("Scan(%q, 0) reads %q, which is not valid", s, got)
		}
		if left == 0 || t.Failed() {
			return
		}
		for _, p := range pieces {
			walk(s+p, left-1)
		}
	}
	walk("'", 5)
}

// sampleAtoms are atoms of many shapes, plain and quoted.
func sampleAtoms() []string {
	var l []string
	for _, s := range orderedTexts() {
		if utf8.ValidString(s) {
			l = append(l, s)
		}
	}
	l = append(l, reserved...)
	l = append(l, "it's", `\x41`, `a\`, "'a'", "a@b_C9", "A", " ", "0", "\n\r\t\x00\x1f\x7f", strings.Repeat("\x7f", api.MaxAtom), strings.Repeat("é", 127), strings.Repeat("y", api.MaxAtom))
	for a := range 128 {
		for b := range 128 {
			l = append(l, string([]byte{byte(a), byte(b)}))
		}
	}
	for _, c := range codePoints {
		if c.fault < 0 {
			l = append(l, c.bytes, "a"+c.bytes, c.bytes+"'")
		}
	}
	return l
}

// P1.7, P1.8
func TestThereAndBack(t *testing.T) {
	for _, a := range sampleAtoms() {
		q, err := atom.Quote(a)
		if err != nil {
			t.Fatalf("Quote(%q): %v", a, err)
		}
		if !atom.Valid(a) {
			t.Errorf("Quote writes %q, which is not valid", a)
		}
		reads(t, q, 0, a, len(q))
		for _, ahead := range []string{"x", "'", `\`, "'a\\", "\xff", "é\n", strings.Repeat("y", 300)} {
			reads(t, ahead+q, len(ahead), a, len(ahead)+len(q))
		}
		if q[0] != '\'' {
			reads(t, q+"-"+q, 0, a, len(q))
			continue
		}
		for _, behind := range []string{"'", `\`, "x", q, "\xff", "\n", strings.Repeat("y", 300)} {
			reads(t, q+behind, 0, a, len(q))
		}
	}
}

// P1.3, P1.7, P1.8, on any bytes.
func FuzzScan(f *testing.F) {
	for _, s := range []string{"", "foo(X)", "'a b'.", "'a", `'a\q'`, `'\x41\xC3\xa9'`, "end", "'\xff'", "é"} {
		f.Add(s, 0)
		f.Add(s, 1)
	}
	f.Fuzz(func(t *testing.T, s string, from int) {
		text, end, err := atom.Scan(s, from)
		if err != nil {
			if text != "" || end != 0 {
				t.Fatalf("Scan(%q, %d) = %q, %d beside %v", s, from, text, end, err)
			}
			return
		}
		if !atom.Valid(text) || end <= from || end > len(s) {
			t.Fatalf("Scan(%q, %d) = %q, %d", s, from, text, end)
		}
		q, err := atom.Quote(text)
		if err != nil {
			t.Fatalf("Quote(%q): %v", text, err)
		}
		if again, stop, err := atom.Scan(q, 0); again != text || stop != len(q) || err != nil {
			t.Fatalf("Scan(%q, 0) = %q, %d, %v", q, again, stop, err)
		}
		if again, stop, err := atom.Scan(s[from:], 0); again != text || stop != end-from || err != nil {
			t.Fatalf("Scan(%q, 0) = %q, %d, %v", s[from:], again, stop, err)
		}
	})
}
