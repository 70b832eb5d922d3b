package lex

import (
	"strings"
	"testing"

	"heddle/api"
	"heddle/sample"
)

// P10.1: one token more than may be. A text of which it could be told is too long, so the inner function is asked.
func TestTooManyTokens(t *testing.T) {
	full := strings.Repeat("(", api.MaxTokens)
	for _, behind := range []string{"", " ", "%(", " \n% end", "\t\r\n"} {
		if l, err := scan(full + behind); err != nil || len(l) != api.MaxTokens {
			t.Errorf("%d tokens with %q behind: %d, %v", api.MaxTokens, behind, len(l), err)
		}
	}
	for _, c := range []struct {
		behind string
		at     int
	}{{")", 0}, {" a", 1}, {"%\n.", 2}, {"\"", 0}, {"1#0", 0}, {"$", 0}, {"'", 0}, {" \n\n\xff", 3}} {
		l, err := scan(full + c.behind)
		if !sample.IsFault(err, api.Fault{Layer: "lex", At: api.MaxTokens + c.at, Code: api.ErrMany}) || len(l) != 0 {
			t.Errorf("with %q behind: %d tokens, %v", c.behind, len(l), err)
		}
	}
	if l, err := scan("\"" + full + ")"); !sample.IsFault(err, api.Fault{Layer: "lex", At: 0, Code: api.ErrByte}) || len(l) != 0 {
		t.Errorf("with a wrong byte ahead: %d tokens, %v", len(l), err)
	}
}

// What is no fault is not wrapped.
func TestWrap(t *testing.T) {
	if err := wrap(1, nil); err != nil {
		t.Error(err)
	}
}
