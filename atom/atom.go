// Package atom is layer 1: atoms' texts, names of nodes, tables of atoms.
package atom

import (
	"errors"
	"strings"
	"unicode/utf8"

	"heddle/api"
)

const lowDigits = "0123456789abcdef"

// Valid tells whether a text may be an atom's.
func Valid(s string) bool { return checkText(s) == nil }

// Quote writes an atom as it stands in a program.
func Quote(s string) (string, error) {
	if err := checkText(s); err != nil {
		return "", err
	}
	if isPlain(s) {
		return s, nil
	}
	out := make([]byte, 0, len(s)+2)
	out = append(out, '\'')
	for i := range len(s) {
		out = appendQuoted(out, s[i])
	}
	return string(append(out, '\'')), nil
}

// Compare is the order of atoms: -1, 0, 1.
//
// UTF-8 keeps the order of code points in its bytes, so one rule serves atoms and all other texts.
func Compare(a, b string) int { return strings.Compare(a, b) }

// Scan reads the atom that begins at a place; the place behind it.
func Scan(s string, from int) (string, int, error) {
	switch {
	case from < 0 || from > len(s):
		return "", 0, refuse(0, api.ErrRange)
	case from < len(s) && isSmall(s[from]):
		return scanPlain(s, from)
	case from < len(s) && s[from] == '\'':
		return scanQuoted(s, from)
	}
	return "", 0, refuse(from, api.ErrAtom)
}

func refuse(at int, code api.Errno) error {
	return &api.Fault{Layer: "atom", At: at, Code: code}
}

// checkText refuses what is no atom's text, at the place of its first fault.
func checkText(s string) error {
	if len(s) > api.MaxAtom {
		return refuse(0, api.ErrLong)
	}
	for i, r := range s {
		if r != utf8.RuneError {
			continue
		}
		// The range tells a wrong byte and a true U+FFFD alike; only the width tells them apart.
		if _, width := utf8.DecodeRuneInString(s[i:]); width == 1 {
			return refuse(i, api.ErrUTF)
		}
	}
	return nil
}

func scanPlain(s string, from int) (string, int, error) {
	end := from
	for end < len(s) && isWordByte(s[end]) {
		end++
	}
	word := s[from:end]
	if len(word) > api.MaxAtom {
		return "", 0, refuse(from, api.ErrLong)
	}
	if isReserved(word) {
		return "", 0, refuse(from, api.ErrAtom)
	}
	return word, end, nil
}

func scanQuoted(s string, from int) (string, int, error) {
	text, end, err := unquote(s, from)
	if err != nil {
		return "", 0, err
	}
	// The text's own places mean nothing in s, so its fault is told at the quote.
	err = checkText(text)
	switch {
	case errors.Is(err, api.ErrLong):
		return "", 0, refuse(from, api.ErrLong)
	case errors.Is(err, api.ErrUTF):
		return "", 0, refuse(from, api.ErrUTF)
	}
	return text, end, nil
}

// unquote reads the bytes between the quote at from and the one that ends it, whatever text they make.
func unquote(s string, from int) (string, int, error) {
	var text []byte
	for i := from + 1; i < len(s); {
		switch c := s[i]; {
		case c == '\'':
			return string(text), i + 1, nil
		case isControl(c):
			return "", 0, refuse(from, api.ErrQuote)
		case c == '\\':
			b, width := readEscape(s[i:])
			if width == 0 {
				return "", 0, refuse(i, api.ErrEscape)
			}
			text = append(text, b)
			i += width
		default:
			text = append(text, c)
			i++
		}
	}
	return "", 0, refuse(from, api.ErrQuote)
}

// readEscape reads the escape with which s begins, its backslash first: the byte it stands for, and its width (0: it is none).
func readEscape(s string) (byte, int) {
	if len(s) < 2 {
		return 0, 0
	}
	switch c := s[1]; c {
	case '\'', '\\':
		return c, 2
	case 'n':
		return '\n', 2
	case 't':
		return '\t', 2
	case 'r':
		return '\r', 2
	case 'x':
		return readHex(s)
	}
	return 0, 0
}

func readHex(s string) (byte, int) {
	if len(s) < 4 {
		return 0, 0
	}
	high, low := hexValue(s[2]), hexValue(s[3])
	if high < 0 || low < 0 {
		return 0, 0
	}
	return byte(high<<4 | low), 4
}

// hexValue is a digit's value, -1 of what is no digit.
func hexValue(c byte) int {
	switch {
	case '0' <= c && c <= '9':
		return int(c - '0')
	case 'a' <= c && c <= 'f':
		return int(c-'a') + 10
	case 'A' <= c && c <= 'F':
		return int(c-'A') + 10
	}
	return -1
}

func appendQuoted(out []byte, c byte) []byte {
	switch {
	case c == '\n':
		return append(out, '\\', 'n')
	case c == '\t':
		return append(out, '\\', 't')
	case c == '\r':
		return append(out, '\\', 'r')
	case isControl(c):
		return append(out, '\\', 'x', lowDigits[c>>4], lowDigits[c&15])
	case c == '\'' || c == '\\':
		out = append(out, '\\')
		fallthrough
	default:
		return append(out, c)
	}
}

// isPlain: may it stand in a program without quotes?
func isPlain(s string) bool {
	if s == "" || !isSmall(s[0]) || isReserved(s) {
		return false
	}
	for i := range len(s) {
		if !isWordByte(s[i]) {
			return false
		}
	}
	return true
}

func isReserved(s string) bool {
	switch s {
	case "after", "and", "andalso", "begin", "case", "catch", "div", "end", "fun", "if",
		"not", "of", "or", "orelse", "receive", "rem", "try", "when", "xor":
		return true
	}
	return false
}

func isSmall(c byte) bool { return 'a' <= c && c <= 'z' }

func isAlphanumeric(c byte) bool {
	return isSmall(c) || 'A' <= c && c <= 'Z' || '0' <= c && c <= '9'
}

func isWordByte(c byte) bool { return isAlphanumeric(c) || c == '_' || c == '@' }

// isControl: a byte that stands in quotes only as an escape.
func isControl(c byte) bool { return c < 32 || c == 127 }
