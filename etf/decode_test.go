package etf_test

import (
	"bytes"
	"errors"
	"fmt"
	"math/rand"
	"slices"
	"strings"
	"testing"

	"heddle/api"
	"heddle/atom"
	"heddle/etf"
	"heddle/sample"
)

// decodes: Decode and Whole tell that term of these bytes; what stands behind them plays no part in Decode.
func decodes(t *testing.T, want api.Term, b ...byte) {
	t.Helper()
	before := slices.Clone(b)
	if x, err := etf.Whole(b, nil); err != nil || !same(x, want) {
		t.Errorf("Whole(%.80v) = %.80v, %v, want %.80v", b, x, err, want)
	}
	for _, behind := range []string{"", "\x00", "\x83", "j", "\xff\xff"} {
		x, n, err := etf.Decode(append(slices.Clone(b), behind...), nil)
		if err != nil || n != len(b) || !same(x, want) {
			t.Errorf("Decode(%.80v and %q) = %.80v, %d, %v, want %.80v, %d", b, behind, x, n, err, want, len(b))
		}
	}
	if !bytes.Equal(b, before) {
		t.Errorf("Decode has changed %v to %v", before, b)
	}
}

// refusedAs: Decode and Whole tell that chain of faults, and nothing beside it; a table stays as it was.
func refusedAs(t *testing.T, b []byte, chain ...api.Fault) {
	t.Helper()
	table := tableOf(t, 1000, "known")
	for _, atoms := range []*atom.Table{nil, table} {
		x, n, err := etf.Decode(b, atoms)
		if !isZero(x) || n != 0 || !sample.IsFault(err, chain...) || !errors.Is(err, chain[len(chain)-1].Code) {
			t.Errorf("Decode(%.80v, %d bytes) = %.80v, %d, %v, want %v", b, len(b), x, n, err, chain)
		}
		x, err = etf.Whole(b, atoms)
		if !isZero(x) || !sample.IsFault(err, chain...) {
			t.Errorf("Whole(%.80v, %d bytes) = %.80v, %v, want %v", b, len(b), x, err, chain)
		}
	}
	holds(t, table, 1000, "known")
}

// refused: likewise, with that fault of layer etf alone.
func refused(t *testing.T, b []byte, code api.Errno, at int) {
	t.Helper()
	refusedAs(t, b, fault(at, code)...)
}

// cat lays texts, bytes and lists of bytes one behind the other.
func cat(pieces ...any) []byte {
	var b []byte
	for _, p := range pieces {
		switch p := p.(type) {
		case string:
			b = append(b, p...)
		case int:
			b = append(b, byte(p))
		case []byte:
			b = append(b, p...)
		}
	}
	return b
}

// agrees: Decode tells what the tests' own reader tells.
func agrees(t *testing.T, b []byte) {
	t.Helper()
	want := expect(b)
	x, n, err := etf.Decode(b, nil)
	if !same(x, want.term) || n != want.length || !sample.IsFault(err, want.faults...) {
		t.Fatalf("Decode(%v) = %.200v, %d, %v, want %.200v", b, x, n, err, want)
	}
}

// P4.2: the chapter's examples.
func TestDecodeExamples(t *testing.T) {
	x := tuple(symbol("ok"), list(num(1), num(-1), null()))
	decodes(t, x, 131, 104, 2, 119, 2, 111, 107, 108, 0, 0, 0, 2, 97, 1, 98, 255, 255, 255, 255, 106)
	if _, n, _ := etf.Decode([]byte{131, 104, 2, 119, 2, 111, 107, 108, 0, 0, 0, 2, 97, 1, 98, 255, 255, 255, 255, 106, 131, 9}, nil); n != 20 {
		t.Errorf("%d bytes, want 20", n)
	}
	refused(t, []byte{131}, api.ErrCut, 1)
	refused(t, []byte{131, 107, 0, 0}, api.ErrTag, 1)
	refused(t, []byte{131, 104, 1}, api.ErrCut, 3)
	refusedAs(t, []byte{131, 119, 1, 255}, api.Fault{Layer: "etf", At: 1, Code: api.ErrUTF}, api.Fault{Layer: "atom", Code: api.ErrUTF})
	refused(t, []byte{131, 108, 0, 0, 0, 0, 106}, api.ErrCount, 1)
	refused(t, nil, api.ErrVersion, 0)
	refused(t, []byte{}, api.ErrVersion, 0)
	decodes(t, num(5), 131, 98, 0, 0, 0, 5)
	decodes(t, num(5), 131, 97, 5)
}

// P4.2: a first byte that is none.
func TestDecodeVersion(t *testing.T) {
	for first := range 256 {
		if first == 131 {
			continue
		}
		refused(t, []byte{byte(first)}, api.ErrVersion, 0)
		refused(t, []byte{byte(first), 106}, api.ErrVersion, 0)
		refused(t, []byte{byte(first), 131, 106}, api.ErrVersion, 0)
	}
}

// P4.2: each tag in both ways.
func TestDecodeParts(t *testing.T) {
	for n := range 256 {
		decodes(t, num(int64(n)), 131, 97, byte(n))
		decodes(t, num(int64(n)), 131, 98, 0, 0, 0, byte(n))
	}
	decodes(t, num(256), 131, 98, 0, 0, 1, 0)
	decodes(t, num(0x01020304), 131, 98, 1, 2, 3, 4)
	decodes(t, num(-1), 131, 98, 255, 255, 255, 255)
	decodes(t, num(-256), 131, 98, 255, 255, 255, 0)
	decodes(t, num(api.MaxWire), 131, 98, 127, 255, 255, 255)
	decodes(t, num(api.MinWire), 131, 98, 128, 0, 0, 0)
	decodes(t, null(), 131, 106)
	decodes(t, tuple(), 131, 104, 0)
	decodes(t, tuple(), 131, 105, 0, 0, 0, 0)
	decodes(t, tuple(null(), num(7)), 131, 104, 2, 106, 97, 7)
	decodes(t, tuple(null(), num(7)), 131, 105, 0, 0, 0, 2, 106, 97, 7)
	decodes(t, symbol("é"), 131, 118, 0, 2, 0xc3, 0xa9)
	numbers := []byte{5, 6, 7, 8, 9, 10, 11, 12, 1, 2, 3, 4, 13, 14, 15, 16}
	for _, name := range [][]byte{cat(119, 3, "n@h"), cat(118, 0, 3, "n@h")} {
		decodes(t, pid("n@h", 0x01020304, 0x05060708, 0x090a0b0c), cat(131, 88, name, numbers[:12])...)
		decodes(t, ref("n@h", 0x05060708, 0x090a0b0c, 0x01020304, 0x0d0e0f10), cat(131, 90, 0, 3, name, numbers)...)
		decodes(t, tuple(pid("n@h", 0x01020304, 0x05060708, 0x090a0b0c), num(1)), cat(131, 104, 2, 88, name, numbers[:12], 97, 1)...)
	}
}

// P4.2: lists of all lengths and tails; a list that is a tail goes on with the one ahead.
func TestDecodeLists(t *testing.T) {
	decodes(t, list(num(1), null()), 131, 108, 0, 0, 0, 1, 97, 1, 106)
	decodes(t, list(num(1), num(2)), 131, 108, 0, 0, 0, 1, 97, 1, 97, 2)
	decodes(t, list(num(1), tuple()), 131, 108, 0, 0, 0, 1, 97, 1, 104, 0)
	decodes(t, list(null(), null()), 131, 108, 0, 0, 0, 1, 106, 106)
	decodes(t, list(num(1), num(2), null()), 131, 108, 0, 0, 0, 1, 97, 1, 108, 0, 0, 0, 1, 97, 2, 106)
	decodes(t, list(num(1), num(2), num(3)), 131, 108, 0, 0, 0, 1, 97, 1, 108, 0, 0, 0, 1, 97, 2, 97, 3)
	decodes(t, list(list(num(1), null()), num(2), null()), 131, 108, 0, 0, 0, 1, 108, 0, 0, 0, 1, 97, 1, 106, 108, 0, 0, 0, 1, 97, 2, 106)
	decodes(t, list(list(num(1), num(2), num(3)), num(4)), 131, 108, 0, 0, 0, 1, 108, 0, 0, 0, 1, 97, 1, 108, 0, 0, 0, 1, 97, 2, 97, 3, 97, 4)
	decodes(t, tuple(list(num(1), num(2), null()), num(3)), 131, 104, 2, 108, 0, 0, 0, 1, 97, 1, 108, 0, 0, 0, 1, 97, 2, 106, 97, 3)
	for _, n := range []int{1, 255, 256, 4094} {
		decodes(t, listOf(ones(n), null()), cat(131, 108, 0, 0, n>>8, n, bytes.Repeat([]byte{97, 1}, n), 106)...)
	}
	refused(t, []byte{131, 108, 0, 0, 0, 0}, api.ErrCount, 1)
	refused(t, []byte{131, 108, 0, 0, 0}, api.ErrCut, 1)
	refused(t, []byte{131, 104, 1, 108, 0, 0, 0, 0, 106}, api.ErrCount, 3)
	refused(t, []byte{131, 108, 0, 0, 0, 1, 97, 1, 108, 0, 0, 0, 0, 106}, api.ErrCount, 8)
	refused(t, []byte{131, 108, 0, 0, 0, 1, 97, 1}, api.ErrCut, 8)
	refused(t, []byte{131, 108, 0, 0, 0, 1, 97, 1, 7}, api.ErrTag, 8)
}

// cells is a list of so many cells, each the tail of the one ahead, and that tail behind them.
func cells(n int, tail ...byte) []byte {
	return append(bytes.Repeat([]byte{108, 0, 0, 0, 1, 97, 1}, n), tail...)
}

// P4.2: MaxSize parts and one more.
func TestDecodeMany(t *testing.T) {
	most := cat(131, 105, 0, 0, 0x0f, 0xff)
	decodes(t, tuple(slices.Repeat([]api.Term{null()}, 4095)...), cat(most, bytes.Repeat([]byte{106}, 4095))...)
	more := cat(131, 105, 0, 0, 0x10, 0, bytes.Repeat([]byte{106}, 4095))
	for _, behind := range []string{"", "j", "\x00", "h", "\xff"} {
		refused(t, cat(more, behind), api.ErrMany, len(more))
	}
	decodes(t, list(slices.Repeat([]api.Term{null()}, 4095)...), cat(131, 108, 0, 0, 0x0f, 0xfe, bytes.Repeat([]byte{106}, 4095))...)
	longer := cat(131, 108, 0, 0, 0x0f, 0xff, bytes.Repeat([]byte{106}, 4095))
	refused(t, longer, api.ErrMany, len(longer))
	refused(t, cat(longer, 106), api.ErrMany, len(longer))
	// A list that is a tail is a part of its own, though it is none of the term.
	head := cat(131, 108, 0, 0, 0x0f, 0xfb, bytes.Repeat([]byte{106}, 4091))
	decodes(t, list(slices.Repeat([]api.Term{null()}, 4094)...), cat(head, 108, 0, 0, 0, 2, 106, 106, 106)...)
	refused(t, cat(head, 108, 0, 0, 0, 3, 106, 106, 106, 106), api.ErrMany, len(head)+8)
	refused(t, cat(head, 108, 0, 0, 0, 3, 106, 106, 106), api.ErrMany, len(head)+8)
	refused(t, cat(head, 108, 0, 0, 0, 3, 106, 106), api.ErrCut, len(head)+7)
}

// P4.2: part 4096 that is also too deep.
func TestDecodeManyAheadOfDeep(t *testing.T) {
	wide := cat(131, 105, 0, 0, 0x0f, 0xff, bytes.Repeat([]byte{106}, 3840))
	b := cat(wide, bytes.Repeat([]byte{104, 1}, 255))
	refused(t, b, api.ErrMany, len(b))
	refused(t, cat(b, 106), api.ErrMany, len(b))
	wide = cat(131, 105, 0, 0, 0x0f, 0xff, bytes.Repeat([]byte{106}, 3839))
	b = cat(wide, bytes.Repeat([]byte{104, 1}, 255))
	refused(t, b, api.ErrDeep, len(b))
	refused(t, cat(b, 7), api.ErrDeep, len(b))
	wide = cat(131, 105, 0, 0, 0, 2, bytes.Repeat([]byte{104, 1}, 254), 106)
	decodes(t, tuple(chain(254, null()), null()), cat(wide, 106)...)
}

// P4.2: depth MaxDepth and one more, in tuples, in lists, along tails.
func TestDecodeDeep(t *testing.T) {
	tuples := func(n int) []byte { return bytes.Repeat([]byte{104, 1}, n) }
	decodes(t, chain(255, null()), cat(131, tuples(255), 106)...)
	decodes(t, chain(256, tuple()).Args[0], cat(131, tuples(255), 104, 0)...)
	for _, behind := range []string{"", "j", "\x00", "h\x00"} {
		refused(t, cat(131, tuples(256), behind), api.ErrDeep, 513)
	}
	refused(t, cat(131, tuples(255)), api.ErrCut, 511)
	refused(t, cat(131, tuples(255), 0), api.ErrTag, 511)

	heads := bytes.Repeat([]byte{108, 0, 0, 0, 1}, 255)
	decodes(t, nested(255), cat(131, heads, 106, bytes.Repeat([]byte{106}, 255))...)
	refused(t, cat(131, heads, 108, 0, 0, 0, 1, 106), api.ErrDeep, 1+256*5)

	decodes(t, listOf(ones(255), null()), cat(131, cells(255, 106))...)
	decodes(t, listOf(ones(255), num(7)), cat(131, cells(255, 97, 7))...)
	refused(t, cat(131, cells(255)), api.ErrCut, 1+255*7)
	refused(t, cat(131, cells(255, 7)), api.ErrTag, 1+255*7)
	refused(t, cat(131, cells(255, 108, 0, 0, 0, 1)), api.ErrDeep, 1+255*7+5)
	refused(t, cat(131, cells(256, 106)), api.ErrDeep, 1+255*7+5)
	refused(t, cat(131, cells(4000, 106)), api.ErrDeep, 1+255*7+5)
	decodes(t, chain(128, listOf(ones(127), null())), cat(131, tuples(128), cells(127, 106))...)
	refused(t, cat(131, tuples(128), cells(128, 106)), api.ErrDeep, 1+256+127*7+5)
	decodes(t, list(chain(254, num(1)), null()), cat(131, 108, 0, 0, 0, 1, tuples(254), 97, 1, 106)...)
	decodes(t, list(num(1), chain(254, num(1))), cat(131, 108, 0, 0, 0, 1, 97, 1, tuples(254), 97, 1)...)
	refused(t, cat(131, 108, 0, 0, 0, 1, 97, 1, tuples(255), 97, 1), api.ErrDeep, 8+510)
}

// nested is lists one within the other as first elements.
func nested(n int) api.Term {
	x := null()
	for range n {
		x = list(x, null())
	}
	return x
}

// P4.2: bytes that are no tag, wherever a part may begin.
func TestDecodeTags(t *testing.T) {
	tags := []byte{88, 90, 97, 98, 104, 105, 106, 108, 118, 119}
	for b := range 256 {
		if slices.Contains(tags, byte(b)) {
			continue
		}
		zeros := make([]byte, 40)
		refused(t, []byte{131, byte(b)}, api.ErrTag, 1)
		refused(t, cat(131, b, zeros), api.ErrTag, 1)
		refused(t, cat(131, 104, 2, 106, b, zeros), api.ErrTag, 4)
		refused(t, cat(131, 105, 0, 0, 0, 1, b, zeros), api.ErrTag, 6)
		refused(t, cat(131, 108, 0, 0, 0, 1, b, zeros), api.ErrTag, 6)
		refused(t, cat(131, 108, 0, 0, 0, 1, 106, b, zeros), api.ErrTag, 7)
	}
	for b := range 256 {
		if b == 118 || b == 119 {
			continue
		}
		refused(t, []byte{131, 88, byte(b)}, api.ErrTag, 2)
		refused(t, cat(131, 88, b, 3, "n@h", make([]byte, 16)), api.ErrTag, 2)
		refused(t, cat(131, 104, 1, 88, b, 3, "n@h", make([]byte, 16)), api.ErrTag, 4)
		refused(t, []byte{131, 90, 0, 3, byte(b)}, api.ErrTag, 4)
		refused(t, cat(131, 90, 0, 3, b, 3, "n@h", make([]byte, 16)), api.ErrTag, 4)
	}
}

// P4.2: a reference's two bytes.
func TestDecodeRefCount(t *testing.T) {
	rest := cat(119, 3, "n@h", make([]byte, 16))
	for high := range 256 {
		for low := range 256 {
			if high == 0 && low == 3 {
				continue
			}
			refused(t, cat(131, 90, high, low), api.ErrCount, 1)
			if high < 5 || low < 5 {
				refused(t, cat(131, 104, 1, 90, high, low, rest), api.ErrCount, 3)
			}
		}
	}
	refused(t, []byte{131, 90}, api.ErrCut, 1)
	refused(t, []byte{131, 90, 0}, api.ErrCut, 1)
	refused(t, []byte{131, 90, 1}, api.ErrCut, 1)
	refused(t, []byte{131, 90, 0, 3}, api.ErrCut, 1)
	refused(t, []byte{131, 90, 0, 4, 7}, api.ErrCount, 1)
}

// P4.2: atoms of every length in both ways, and lengths that no atom has.
func TestDecodeAtoms(t *testing.T) {
	for n := range api.MaxAtom + 1 {
		s := strings.Repeat("x", n)
		decodes(t, symbol(s), cat(131, 119, n, s)...)
		decodes(t, symbol(s), cat(131, 118, 0, n, s)...)
		if n > 0 {
			refused(t, cat(131, 119, n, s[1:]), api.ErrCut, 1)
			refused(t, cat(131, 118, 0, n, s[1:]), api.ErrCut, 1)
		}
	}
	long := []api.Fault{{Layer: "etf", At: 1, Code: api.ErrLong}, {Layer: "atom", Code: api.ErrLong}}
	for _, n := range []int{256, 257, 258, 511, 512, 1000, 65531, 65532} {
		s := strings.Repeat("x", n)
		refusedAs(t, cat(131, 118, n>>8, n, s), long...)
		refusedAs(t, cat(131, 118, n>>8, n, s, "more"), long...)
		refusedAs(t, cat(131, 118, n>>8, n, strings.Repeat("\xff", n)), long...)
		refused(t, cat(131, 118, n>>8, n, s[1:]), api.ErrCut, 1)
	}
	for _, n := range []int{65533, 65534, 65535} {
		s := strings.Repeat("x", n)
		refused(t, cat(131, 118, n>>8, n, s), api.ErrLong, 1)
		refused(t, cat(131, 118, n>>8, n), api.ErrLong, 1)
	}
	refused(t, []byte{131, 118}, api.ErrCut, 1)
	refused(t, []byte{131, 118, 0}, api.ErrCut, 1)
	refused(t, []byte{131, 119}, api.ErrCut, 1)
}

// P4.2: atoms that are no UTF-8: the place is the tag's, the place in the text lies under it.
func TestDecodeUTF(t *testing.T) {
	for s, at := range map[string]int{"\xff": 0, "ab\xc3": 2, "\xc0\x80": 0, "é\xed\xa0\x80": 2, "\xf4\x90\x80\x80": 0, "a\x80b\xff": 1} {
		chain := func(place int) []api.Fault {
			return []api.Fault{{Layer: "etf", At: place, Code: api.ErrUTF}, {Layer: "atom", At: at, Code: api.ErrUTF}}
		}
		refusedAs(t, cat(131, 119, len(s), s), chain(1)...)
		refusedAs(t, cat(131, 118, 0, len(s), s), chain(1)...)
		refusedAs(t, cat(131, 104, 2, 106, 119, len(s), s), chain(4)...)
		refusedAs(t, cat(131, 108, 0, 0, 0, 1, 106, 119, len(s), s), chain(7)...)
		refused(t, cat(131, 119, len(s)+1, s), api.ErrCut, 1)
	}
}

// P4.2: names of nodes that are none, and what is ahead of them.
func TestDecodeNames(t *testing.T) {
	names := []string{"", "a", "a@", "@b", "a@b@c", "n.m@h", "é@h", "\xff@h", "\xff", "ok", "a b@h", "a@" + strings.Repeat("b", 63), strings.Repeat("x", 255), strings.Repeat("x", 300), strings.Repeat("\xff", 300)}
	chain := func(at int) []api.Fault {
		return []api.Fault{{Layer: "etf", At: at, Code: api.ErrName}, {Layer: "atom", Code: api.ErrName}}
	}
	for _, s := range names {
		ways := [][]byte{cat(118, len(s)>>8, len(s), s)}
		if len(s) < 256 {
			ways = append(ways, cat(119, len(s), s))
		}
		for _, name := range ways {
			refusedAs(t, cat(131, 88, name, make([]byte, 12)), chain(1)...)
			refusedAs(t, cat(131, 90, 0, 3, name, make([]byte, 16)), chain(1)...)
			refusedAs(t, cat(131, 104, 2, 106, 88, name, make([]byte, 12)), chain(4)...)
			refusedAs(t, cat(131, 104, 2, 106, 90, 0, 3, name, make([]byte, 16)), chain(4)...)
			refused(t, cat(131, 88, name, make([]byte, 11)), api.ErrCut, 1)
			refused(t, cat(131, 90, 0, 3, name, make([]byte, 15)), api.ErrCut, 1)
		}
	}
	for n := 3; n <= api.MaxName; n++ {
		s := strings.Repeat("b", n-2) + "@h"
		decodes(t, pid(s, 0, 0, 0), cat(131, 88, 119, n, s, make([]byte, 12))...)
		decodes(t, ref(s, 0, 0, 0, 0), cat(131, 90, 0, 3, 118, 0, n, s, make([]byte, 16))...)
	}
}

// P4.2, P4.5: bytes that are cut at every place, and no term of any of them.
func TestDecodeCut(t *testing.T) {
	cuts := []struct {
		b  []byte
		at []int // of ErrCut, for each number of bytes from 1 on
	}{
		{cat(131, 97, 1), []int{1, 1}},
		{cat(131, 98, 0, 0, 0, 1), []int{1, 1, 1, 1, 1}},
		{cat(131, 119, 2, "ab"), []int{1, 1, 1, 1}},
		{cat(131, 118, 0, 2, "ab"), []int{1, 1, 1, 1, 1}},
		{cat(131, 104, 2, 106, 106), []int{1, 1, 3, 4}},
		{cat(131, 105, 0, 0, 0, 1, 97, 1), []int{1, 1, 1, 1, 1, 6, 6}},
		{cat(131, 108, 0, 0, 0, 1, 106, 106), []int{1, 1, 1, 1, 1, 6, 7}},
		{cat(131, 88, 119, 3, "n@h", make([]byte, 12)), slices.Repeat([]int{1}, 18)},
		{cat(131, 90, 0, 3, 118, 0, 3, "n@h", make([]byte, 16)), slices.Repeat([]int{1}, 25)},
		{cat(131, 104, 1, 104, 1, 97, 1), []int{1, 1, 3, 3, 5, 5}},
	}
	for _, c := range cuts {
		if len(c.at) != len(c.b)-1 {
			t.Fatalf("%v: %d places", c.b, len(c.at))
		}
		for i, at := range c.at {
			refused(t, c.b[:i+1], api.ErrCut, at)
			refused(t, slices.Clip(slices.Clone(c.b[:i+1])), api.ErrCut, at)
		}
	}
}

// P4.2: counts of four bytes as great as they can be.
func TestDecodeGreatCounts(t *testing.T) {
	for _, tag := range []int{105, 108} {
		for _, top := range []int{0x7f, 0x80, 0xff} {
			head := cat(131, tag, top, 255, 255, 255)
			refused(t, head, api.ErrCut, 6)
			refused(t, cat(head, 106), api.ErrCut, 7)
			refused(t, cat(head, 0), api.ErrTag, 6)
			refused(t, cat(head, bytes.Repeat([]byte{106}, 4094)), api.ErrCut, 6+4094)
			refused(t, cat(head, bytes.Repeat([]byte{106}, 4095)), api.ErrMany, 6+4095)
			refused(t, cat(head, bytes.Repeat([]byte{106}, 70000)), api.ErrMany, 6+4095)
			refused(t, cat(131, bytes.Repeat(head[1:], 200)), api.ErrCut, 1+1000)
			refused(t, cat(131, bytes.Repeat(head[1:], 300)), api.ErrDeep, 1+256*5)
		}
	}
	many := cat(131, 104, 255)
	refused(t, cat(many, bytes.Repeat([]byte{106}, 254)), api.ErrCut, 3+254)
	decodes(t, tuple(slices.Repeat([]api.Term{null()}, 255)...), cat(many, bytes.Repeat([]byte{106}, 255))...)
	decodes(t, tuple(slices.Repeat([]api.Term{null()}, 256)...), cat(131, 105, 0, 0, 1, 0, bytes.Repeat([]byte{106}, 256))...)
}

// upTo is bytes that end at that place within a tuple that goes on, so that the next part's tag stands there.
func upTo(place int) []byte {
	b := cat(131, 105, 255, 255, 255, 255)
	for place-len(b) > 2*257 {
		b = cat(b, 119, 255, strings.Repeat("x", 255))
	}
	for len(b) < place {
		n := min(place-len(b), 257)
		if n == 1 {
			b = append(b, 106)
			continue
		}
		b = cat(b, 119, n-2, strings.Repeat("y", n-2))
	}
	return b
}

// P4.2: terms of MaxTermBytes bytes and one more.
func TestDecodeLong(t *testing.T) {
	for short := range 3 {
		for _, length := range []int{65535, 65536} {
			x := full(length, 1000*short)
			b := encoded(x, never)
			if len(b) != length {
				t.Fatalf("%d bytes, want %d", len(b), length)
			}
			decodes(t, x, b...)
		}
	}
	b := encoded(full(65537, 0), never)
	refused(t, b, api.ErrLong, 65536)
	refused(t, b[:65536], api.ErrCut, 65536)
	b = encoded(full(65537, 1000), never)
	refused(t, b, api.ErrLong, 65536)
	// A tuple ends with its last part's bytes: an atom that ends at the place, and one that ends behind it.
	head := upTo(65536 - 257)
	head[2], head[3], head[4], head[5] = 0, 0, 0, byte(len(expectParts(head))+1)
	last := cat(119, 255, strings.Repeat("z", 255))
	if want := expect(cat(head, last)); want.length != 65536 {
		t.Fatalf("%d bytes, %v", want.length, want.faults)
	}
	decodes(t, expect(cat(head, last)).term, cat(head, last)...)
	refused(t, cat(head, 118, last[1:], "z"), api.ErrLong, 65536-257)
	refused(t, cat(head, 118, 0, last[1:]), api.ErrLong, 65536-257)
}

// expectParts is the parts that stand in the tuple with which bytes begin, as far as they go.
func expectParts(b []byte) []int {
	var places []int
	for at := 6; at < len(b); {
		places = append(places, at)
		at = ownBytes(b, at).end
	}
	return places
}

// P4.2: for each piece of a part's own bytes, which of the errors of its end is told, and what is ahead of them.
func TestDecodeLongPieces(t *testing.T) {
	name := cat(119, 3, "n@h")
	numbers := make([]byte, 16)
	whole := [][]byte{
		cat(97, 1), cat(98, 0, 0, 0, 1), cat(106), cat(104, 0), cat(105, 0, 0, 0, 0), cat(119, 3, "abc"), cat(118, 0, 3, "abc"),
		cat(88, name, numbers[:12]), cat(88, 118, 0, 3, "n@h", numbers[:12]), cat(90, 0, 3, name, numbers), cat(90, 0, 3, 118, 0, 3, "n@h", numbers),
	}
	for _, part := range whole {
		for over := 1; over <= len(part); over++ {
			place := 65536 - len(part) + over
			head := upTo(place)
			refused(t, cat(head, part), api.ErrLong, place)
			refused(t, cat(head, part, part), api.ErrLong, place)
			for cut := 1; cut < len(part); cut++ {
				agrees(t, cat(head, part[:cut]))
			}
		}
		head := upTo(65536 - len(part))
		refused(t, cat(head, part), api.ErrCut, 65536)
		refused(t, cat(head, part, 0), api.ErrTag, 65536)
		refused(t, cat(head, part, part), api.ErrLong, 65536)
	}
	refused(t, cat(upTo(65535), 97), api.ErrLong, 65535)                        // ErrLong is ahead of ErrCut
	refused(t, cat(upTo(65534), 97), api.ErrCut, 65534)                         // its byte would end at the place
	refused(t, cat(upTo(65536)), api.ErrCut, 65536)                             // b's end is ahead of ErrLong at a tag
	refused(t, cat(upTo(65536), 255), api.ErrTag, 65536)                        // so is what is no tag
	refused(t, cat(upTo(65536), 106), api.ErrLong, 65536)                       // a tag is not
	refused(t, cat(upTo(65535), 88), api.ErrLong, 65535)                        // the tag of its atom
	refused(t, cat(upTo(65535), 88, 7), api.ErrLong, 65535)                     // ahead of what it is
	refused(t, cat(upTo(65534), 88, 7), api.ErrTag, 65535)                      //
	refused(t, cat(upTo(65534), 88, 119), api.ErrLong, 65534)                   // its length
	refused(t, cat(upTo(65534), 90, 0), api.ErrLong, 65534)                     // the two bytes
	refused(t, cat(upTo(65534), 90, 7, 7), api.ErrLong, 65534)                  // ahead of what they are
	refused(t, cat(upTo(65533), 90, 7, 7), api.ErrCount, 65533)                 //
	refused(t, cat(upTo(65532), 108, 0, 0, 0, 0), api.ErrLong, 65532)           // a list's n
	refused(t, cat(upTo(65531), 108, 0, 0, 0, 0), api.ErrCount, 65531)          //
	refused(t, cat(upTo(65531), 108, 0, 0, 0, 1, 255), api.ErrTag, 65536)       //
	refused(t, cat(upTo(65531), 108, 0, 0, 0, 1, 106), api.ErrLong, 65536)      // an element's tag
	refused(t, cat(upTo(65530), 108, 0, 0, 0, 1, 106, 106), api.ErrLong, 65536) // a tail's tag
	refused(t, cat(upTo(65533), 119, 2, "\xff\xff"), api.ErrLong, 65533)        // ahead of the atom's
	refusedAs(t, cat(upTo(65532), 119, 2, "\xff\xff"), api.Fault{Layer: "etf", At: 65532, Code: api.ErrUTF}, api.Fault{Layer: "atom", Code: api.ErrUTF})
	refused(t, cat(upTo(65520), 88, 119, 3, "xxx", numbers[:12]), api.ErrLong, 65520)
	refusedAs(t, cat(upTo(65518), 88, 119, 3, "xxx", numbers[:12]), api.Fault{Layer: "etf", At: 65518, Code: api.ErrName}, api.Fault{Layer: "atom", Code: api.ErrName})
	refused(t, cat(upTo(65519), 88, 119, 3, "xxx", numbers[:12]), api.ErrLong, 65519)
}

// P4.2: all bytes of up to six out of these behind 131.
func TestDecodeAllShort(t *testing.T) {
	alphabet := []byte{0, 1, 2, 3, 'a', '@', 88, 90, 98, 104, 105, 106, 108, 118, 119, 131, 255}
	var walk func(b []byte, left int)
	walk = func(b []byte, left int) {
		agrees(t, b)
		if left == 0 {
			return
		}
		for _, c := range alphabet {
			walk(append(b[:len(b):len(b)], c), left-1)
		}
	}
	walk([]byte{131}, 4)
	for _, head := range [][]byte{cat(108, 0, 0, 0), cat(105, 0, 0, 0), cat(90, 0, 3), cat(88, 119), cat(104, 2, 106), cat(118, 0)} {
		walk(cat(131, head), 3)
	}
}

// P4.2, P4.4, P4.5: random terms in random ways of the grammar, whole, cut at every place, and with a byte that is another one.
func TestDecodeRandom(t *testing.T) {
	r := rand.New(rand.NewSource(42))
	choose := func() bool { return r.Intn(3) == 0 }
	for i := range 1500 {
		x := randomTerm(r, 1+i%30)
		b := encoded(x, choose)
		behind := make([]byte, r.Intn(4))
		r.Read(behind)
		got, n, err := etf.Decode(cat(b, behind), nil)
		if err != nil || n != len(b) || !same(got, x) {
			t.Fatalf("Decode(%v) = %.200v, %d, %v, want %.200v", b, got, n, err, x)
		}
		again, err := etf.Encode(got)
		if err != nil || len(again) > len(b) {
			t.Fatalf("Encode of what %v says is %v, %v", b, again, err)
		}
		for end := range b {
			agrees(t, b[:end])
			if y, n, err := etf.Decode(b[:end], nil); err == nil || n != 0 || !isZero(y) {
				t.Fatalf("Decode(%v) = %v, %d, cut from %v", b[:end], y, n, b)
			}
		}
		for range 60 {
			other := slices.Clone(b)
			for range 1 + r.Intn(3) {
				other[r.Intn(len(other))] = []byte{0, 1, 2, 3, 88, 90, 97, 98, 104, 105, 106, 108, 118, 119, 131, 255, byte(r.Intn(256))}[r.Intn(17)]
			}
			agrees(t, other)
		}
	}
}

// P4.4: Encode of what is read in the widest way is shorter.
func TestEncodeIsNoLonger(t *testing.T) {
	always := func() bool { return true }
	x := tuple(num(1), num(300), symbol("ok"), pid("n@h", 1, 2, 3), ref("n@h", 1, 2, 3, 4), list(num(1), num(2), null()), tuple(), null())
	b := encoded(x, always)
	got, err := etf.Whole(b, nil)
	if err != nil || !same(got, x) {
		t.Errorf("Whole(%v) = %v, %v", b, got, err)
	}
	narrow := encoded(x, never)
	encodes(t, got, narrow...)
	if len(narrow) >= len(b) {
		t.Errorf("%d bytes of %d", len(narrow), len(b))
	}
}

// P4.2, rule 4: the term shares no memory with the bytes, with another answer, or with another of its parts.
func TestDecodeNewMemory(t *testing.T) {
	x := tuple(symbol("abc"), list(num(1), num(2), null()), pid("n@h", 1, 2, 3), ref("n@h", 1, 2, 3, 4), symbol("abc"))
	b := encoded(x, never)
	first, _, _ := etf.Decode(b, nil)
	second, _, _ := etf.Decode(b, nil)
	for i := range b {
		b[i] = 0
	}
	if !same(first, x) {
		t.Errorf("a term shares memory with its bytes: %v", first)
	}
	spoil(first)
	if !same(second, x) {
		t.Errorf("two terms share memory: %v", second)
	}
	second.Args[3].Nums[0] = 99
	_ = append(second.Args[2].Nums, 77)
	_ = append(second.Args[1].Args, num(77))
	want := tuple(symbol("abc"), list(num(1), num(2), null()), pid("n@h", 1, 2, 3), ref("n@h", 1, 99, 3, 4), symbol("abc"))
	if !same(second, want) {
		t.Errorf("parts share memory: %v", second)
	}
}

// spoil changes all that a term's lists hold.
func spoil(x api.Term) {
	for i := range x.Nums {
		x.Nums[i] = 99
	}
	for i := range x.Args {
		spoil(x.Args[i])
		x.Args[i] = num(99)
	}
}

// P4.3
func TestWhole(t *testing.T) {
	x := tuple(symbol("ok"), list(num(1), null()))
	b := encoded(x, never)
	for n := 1; n < 20; n++ {
		for _, fill := range []byte{0, 106, 131} {
			got, err := etf.Whole(cat(b, bytes.Repeat([]byte{fill}, n)), nil)
			if !isZero(got) || !sample.IsFault(err, fault(len(b), api.ErrRest)...) || !errors.Is(err, api.ErrRest) {
				t.Errorf("Whole of %d bytes more = %v, %v", n, got, err)
			}
		}
	}
	longest := encoded(full(65536, 0), never)
	if _, err := etf.Whole(cat(longest, 106), nil); !sample.IsFault(err, fault(65536, api.ErrRest)...) {
		t.Errorf("Whole of 65536 bytes and one more: %v", err)
	}
	if _, err := etf.Whole([]byte{131, 106, 106}, nil); !sample.IsFault(err, fault(2, api.ErrRest)...) {
		t.Errorf("Whole of [] and a byte more: %v", err)
	}
	refused(t, []byte{131, 119, 2, 'a'}, api.ErrCut, 1)
}

// P4.2 to P4.5, on any bytes.
func FuzzDecode(f *testing.F) {
	for _, b := range [][]byte{nil, {131}, {131, 106}, {131, 104, 2, 119, 1, 97, 118, 0, 1, 98}, cat(131, cells(3, 106)), cat(131, 88, 119, 3, "n@h", make([]byte, 12)), cat(131, 90, 0, 3, 118, 0, 3, "n@h", make([]byte, 16))} {
		f.Add(b)
	}
	f.Fuzz(func(t *testing.T, b []byte) {
		agrees(t, b)
		x, n, err := etf.Decode(b, nil)
		if err != nil {
			return
		}
		again, err := etf.Encode(x)
		if err != nil || len(again) > n {
			t.Fatalf("Encode of what %v says is %v, %v", b, again, err)
		}
		if back, err := etf.Whole(again, nil); err != nil || !same(back, x) {
			t.Fatalf("Whole(%v) = %s, %v", again, fmt.Sprint(back), err)
		}
	})
}
