package lex

import (
	"errors"
	"strconv"
	"strings"
	"unicode/utf8"

	"heddle/api"
	"heddle/atom"
)

// signs: the longer ones ahead, so that the first that fits is the longest.
var signs = [...]string{
	"=:=", "=/=",
	"->", "==", "/=", "=<", ">=", "++", "--",
	"(", ")", "[", "]", "{", "}", ",", ";", ":", "|", "!", "=", "+", "-", "*", "/", "<", ">",
}

// longestVar is how many bytes a variable has at most.
const longestVar = 255

// readToken reads the token that begins at a byte; the place behind it.
func readToken(s string, at int) (api.Token, int, error) {
	switch c := s[at]; {
	case isSmall(c):
		if word := readWord(s[at:]); isReserved(word) {
			return api.Token{Kind: api.TWord, Text: word, At: at}, at + len(word), nil
		}
		fallthrough
	case c == '\'':
		return readAtom(s, at)
	case isCapital(c) || c == '_':
		return readVar(s, at)
	case isDigit(c):
		n, width := readNumber(s[at:])
		return tellInt(at, n, width, api.ErrNumber)
	case c == '$':
		n, width := readChar(s[at:])
		return tellInt(at, n, width, api.ErrChar)
	case c == '.' && endsForm(s[at+1:]):
		return api.Token{Kind: api.TDot, At: at}, at + 1, nil
	}
	return readSign(s, at)
}

// isReserved: of a word with a small letter ahead only a reserved one is refused as none of an atom.
func isReserved(word string) bool {
	_, _, err := atom.Scan(word, 0)
	return errors.Is(err, api.ErrAtom)
}

func readAtom(s string, at int) (api.Token, int, error) {
	// All of s is handed on, for the places in the fault below to be places of s.
	text, end, err := atom.Scan(s, at)
	if err != nil {
		return api.Token{}, 0, wrap(at, err)
	}
	return api.Token{Kind: api.TAtom, Text: text, At: at}, end, nil
}

func readVar(s string, at int) (api.Token, int, error) {
	word := readWord(s[at:])
	if len(word) > longestVar {
		return api.Token{}, 0, refuse(at, api.ErrLong)
	}
	return api.Token{Kind: api.TVar, Text: word, At: at}, at + len(word), nil
}

func readSign(s string, at int) (api.Token, int, error) {
	for _, sign := range signs {
		if strings.HasPrefix(s[at:], sign) {
			return api.Token{Kind: api.TSign, Text: sign, At: at}, at + len(sign), nil
		}
	}
	return api.Token{}, 0, refuse(at, api.ErrByte)
}

// tellInt makes a token of a number and its width; of the width 0, that of none, the fault.
func tellInt(at int, n int64, width int, code api.Errno) (api.Token, int, error) {
	if width == 0 {
		return api.Token{}, 0, refuse(at, code)
	}
	return api.Token{Kind: api.TInt, Int: n, At: at}, at + width, nil
}

// readNumber reads the number with which s begins, a digit first: itself and its width (0: it is none).
func readNumber(s string) (int64, int) {
	width := runLength(s, isDigit)
	n, ok := number(s[:width], 10)
	switch {
	case !ok:
		return 0, 0
	case width < len(s) && s[width] == '#':
		return readBased(s, width+1, n)
	}
	return n, width
}

// readBased reads the number of a base whose digits stand from a place on; its width is that from the beginning of s.
func readBased(s string, from int, base int64) (int64, int) {
	if base < 2 || base > 36 {
		return 0, 0
	}
	end := from + runLength(s[from:], isAlphanumeric)
	n, ok := number(s[from:end], int(base))
	if !ok {
		return 0, 0
	}
	return n, end
}

// number tells what digits of a base say; not: no digit, one that is not below the base, too great a number.
func number(digits string, base int) (int64, bool) {
	// ParseUint, unlike ParseInt, takes no plus or minus: behind \x any bytes may stand.
	n, err := strconv.ParseUint(digits, base, 64)
	if err != nil || n > api.MaxInt {
		return 0, false
	}
	return int64(n), true
}

// readChar reads the character with which s begins, its '$' first: its number and its width (0: it is none).
func readChar(s string) (int64, int) {
	c, width := utf8.DecodeRuneInString(s[1:])
	switch {
	case c == '\\':
		return readEscape(s)
	case c < 32 || c == 127 || c == utf8.RuneError && width < 2:
		return 0, 0
	}
	return int64(c), 1 + width
}

// readEscape reads the character with which s begins, '$' and a backslash first.
func readEscape(s string) (int64, int) {
	if len(s) < 3 {
		return 0, 0
	}
	switch c := s[2]; c {
	case 'n':
		return '\n', 3
	case 't':
		return '\t', 3
	case 'r':
		return '\r', 3
	case 's':
		return ' ', 3
	case '\\', '\'', '"':
		return int64(c), 3
	case 'x':
		return readHex(s)
	}
	return 0, 0
}

// readHex reads the character with which s begins, `$\x` first.
func readHex(s string) (int64, int) {
	if len(s) < 5 {
		return 0, 0
	}
	n, ok := number(s[3:5], 16)
	if !ok {
		return 0, 0
	}
	return n, 5
}

// readWord is the word with which s begins.
func readWord(s string) string { return s[:runLength(s, isWordByte)] }

// runLength is how many bytes with which s begins are such ones.
func runLength(s string, is func(byte) bool) int {
	n := 0
	for n < len(s) && is(s[n]) {
		n++
	}
	return n
}

// endsForm: may it stand behind the dot that ends a form?
func endsForm(behind string) bool {
	return behind == "" || behind[0] == '%' || isBlank(rune(behind[0]))
}

func isBlank(c rune) bool { return c == '\t' || c == '\n' || c == '\r' || c == ' ' }

func isInLine(c byte) bool { return c != '\n' }

func isSmall(c byte) bool { return 'a' <= c && c <= 'z' }

func isCapital(c byte) bool { return 'A' <= c && c <= 'Z' }

func isDigit(c byte) bool { return '0' <= c && c <= '9' }

func isAlphanumeric(c byte) bool { return isSmall(c) || isCapital(c) || isDigit(c) }

func isWordByte(c byte) bool { return isAlphanumeric(c) || c == '_' || c == '@' }
