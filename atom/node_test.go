package atom_test

import (
	"fmt"
	"strings"
	"testing"

	"heddle/api"
	"heddle/atom"
)

// noName: Node refuses.
func noName(t *testing.T, s string) {
	t.Helper()
	a, b, err := atom.Node(s)
	refused(t, fmt.Sprintf("Node(%q)", s), err, api.ErrName, 0)
	if a != "" || b != "" {
		t.Errorf("Node(%q) answers %q, %q beside its error", s, a, b)
	}
}

// name: Node parts it so.
func name(t *testing.T, first, second string) {
	t.Helper()
	a, b, err := atom.Node(first + "@" + second)
	if a != first || b != second || err != nil {
		t.Errorf("Node(%q) = %q, %q, %v", first+"@"+second, a, b, err)
	}
}

// P1.5
func TestNode(t *testing.T) {
	name(t, "a", "b")
	name(t, "A-z_0", "Host-1.example.org")
	name(t, "-", ".")
	name(t, "0", "9")
	name(t, "_", "_")
	name(t, "end", "..")
	for _, s := range []string{"", "@", "a", "a@", "@b", "@@", "a@@b", "@a@b", "a@b@", "a@b@c", "ab", "abc", "a.b@c", "a @b", "a@b ", " a@b", "é@b", "a@é", "a@b\x00", "\xff@b", "a@\xff", "'a'@b", "a@b\n"} {
		noName(t, s)
	}
}

// P1.5: 3, MaxName and MaxName + 1 bytes.
func TestNodeLength(t *testing.T) {
	name(t, "a", "b")
	for _, first := range []int{1, 2, 31, 32, api.MaxName - 3, api.MaxName - 2} {
		second := api.MaxName - 1 - first
		name(t, strings.Repeat("x", first), strings.Repeat("y", second))
		noName(t, strings.Repeat("x", first)+"@"+strings.Repeat("y", second+1))
		noName(t, strings.Repeat("x", first+1)+"@"+strings.Repeat("y", second))
	}
	noName(t, strings.Repeat("x", api.MaxName))
	noName(t, "a@"+strings.Repeat("b", 1<<20))
}

// P1.5: each byte in each part, ahead of, between and behind others.
func TestNodeBytes(t *testing.T) {
	const both = "abcdefghijklmnopqrstuvwxyzABCDEFGHIJKLMNOPQRSTUVWXYZ0123456789_-"
	for b := range 256 {
		c := string([]byte{byte(b)})
		for _, part := range []string{c, c + "x", "x" + c, "x" + c + "x"} {
			if strings.Contains(both, c) {
				name(t, part, "h")
			} else {
				noName(t, part+"@h")
			}
			if strings.Contains(both, c) || c == "." {
				name(t, "n", part)
			} else {
				noName(t, "n@"+part)
			}
		}
	}
}
