package parse

import (
	"errors"
	"testing"

	"heddle/api"
	"heddle/sample"
)

// What is no fault is not wrapped.
func TestWrap(t *testing.T) {
	if err := wrap(nil); err != nil {
		t.Error(err)
	}
}

// A parser's panic is a fault at its token, also where something is about it; any other panic is none, and goes on.
func TestTold(t *testing.T) {
	fault := api.Fault{Layer: "parse", At: 7, Code: api.ErrSyntax}
	for _, r := range []any{misplaced(7), errors.Join(errors.New("about it"), misplaced(7))} {
		if err := told(r); !sample.IsFault(err, fault) {
			t.Errorf("%v: %v", r, err)
		}
	}
	for _, r := range []any{7, "seven", errors.New("seven"), api.ErrSyntax} {
		func() {
			defer func() {
				if again := recover(); again != r {
					t.Errorf("%v: %v", r, again)
				}
			}()
			t.Errorf("%v: told as %v", r, told(r))
		}()
	}
	if text := misplaced(7).Error(); text != "token 7 may not stand there" {
		t.Error(text)
	}
}
