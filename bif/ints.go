package bif

import (
	"math"
	"slices"
	"strconv"
	"strings"

	"heddle/api"
)

// reckon is an operator of ints. A sign ahead of an int is the operator with 0 on its left.
func reckon(name string, args []api.Term) (api.Term, api.Errno) {
	if slices.ContainsFunc(args, isNoInt) {
		return api.Term{}, api.ErrBadarith
	}
	a, b := int64(0), args[len(args)-1].Int
	if len(args) == 2 {
		a = args[0].Int
	}
	switch name {
	case "-":
		b = -b
		fallthrough
	case "+":
		return number(a + b), api.OK
	case "*":
		return number(product(a, b)), api.OK
	}
	if b == 0 {
		return api.Term{}, api.ErrBadarith
	}
	if name == "rem" {
		return number(a % b), api.OK
	}
	return number(a / b), api.OK
}

// product is that of two ints, or a number that is no int where 64 bits do not hold it.
func product(a, b int64) int64 {
	if a != 0 && a*b/a != b {
		return math.MaxInt64
	}
	return a * b
}

// ofInt is a function of one int.
func ofInt(name string, t api.Term) (api.Term, api.Errno) {
	if isNoInt(t) {
		return api.Term{}, api.ErrBadarg
	}
	if name == "abs" {
		return number(max(t.Int, -t.Int)), api.OK
	}
	return points(strconv.FormatInt(t.Int, 10)), api.OK
}

// readInt is the number that a text tells.
func readInt(text string) (api.Term, api.Errno) {
	if !isNumeral(text) {
		return api.Term{}, api.ErrBadarg
	}
	// What 64 bits do not hold is cut to their bounds, which are no ints either.
	n, _ := strconv.ParseInt(text, 10, 64)
	return number(n), api.OK
}

// isNumeral tells whether a text is digits, one at least, with a sign ahead or none. (Where ParseInt meets too great a number it looks at no more of the text.)
func isNumeral(text string) bool {
	if strings.HasPrefix(text, "-") || strings.HasPrefix(text, "+") {
		text = text[1:]
	}
	return text != "" && strings.Trim(text, "0123456789") == ""
}

func isNoInt(t api.Term) bool { return t.Kind != api.KInt }

func number(n int64) api.Term { return api.Term{Kind: api.KInt, Int: n} }
