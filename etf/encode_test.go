package etf_test

import (
	"bytes"
	"errors"
	"fmt"
	"math"
	"math/rand"
	"slices"
	"strings"
	"testing"

	"heddle/api"
	"heddle/etf"
	"heddle/sample"
	"heddle/term"
)

// Short names for the terms that tests make by hand.
var (
	num, symbol, ref, pid, tuple = sample.Int, sample.Atom, sample.Ref, sample.Pid, sample.Tuple
	null, list, ones, chain      = sample.Nil, sample.List, sample.Ones, sample.Chain
	same, isZero                 = sample.Same, sample.IsZero
)

// encodes: Encode tells these bytes, Length how many they are, and neither changes the term.
func encodes(t *testing.T, x api.Term, want ...byte) {
	t.Helper()
	before := term.Copy(x)
	b, err := etf.Encode(x)
	if err != nil || !bytes.Equal(b, want) {
		t.Errorf("Encode(%.80v) = %.80v, %v, want %.80v", x, b, err, want)
	}
	if n, err := etf.Length(x); n != len(want) || err != nil {
		t.Errorf("Length(%.80v) = %d, %v, want %d", x, n, err, len(want))
	}
	if !same(x, before) {
		t.Errorf("Encode or Length has changed %.80v to %.80v", before, x)
	}
}

// encodeRefused: Encode and Length tell that chain of faults, and nothing beside it.
func encodeRefused(t *testing.T, x api.Term, chain ...api.Fault) {
	t.Helper()
	b, err := etf.Encode(x)
	if len(b) != 0 || !sample.IsFault(err, chain...) || !errors.Is(err, chain[len(chain)-1].Code) {
		t.Errorf("Encode(%.80v) = %.80v, %v, want %v", x, b, err, chain)
	}
	n, err := etf.Length(x)
	if n != 0 || !sample.IsFault(err, chain...) {
		t.Errorf("Length(%.80v) = %d, %v, want %v", x, n, err, chain)
	}
}

// wrong: likewise, with that fault of layer etf alone.
func wrong(t *testing.T, x api.Term, code api.Errno, at int) {
	t.Helper()
	encodeRefused(t, x, fault(at, code)...)
}

// P4.1: the chapter's example, and each kind.
func TestEncode(t *testing.T) {
	encodes(t, tuple(symbol("ok"), list(num(1), num(-1), null())), 131, 104, 2, 119, 2, 111, 107, 108, 0, 0, 0, 2, 97, 1, 98, 255, 255, 255, 255, 106)
	encodes(t, null(), 131, 106)
	encodes(t, tuple(), 131, 104, 0)
	encodes(t, tuple(tuple(), null()), 131, 104, 2, 104, 0, 106)
	encodes(t, symbol(""), 131, 119, 0)
	encodes(t, symbol("é"), 131, 119, 2, 0xc3, 0xa9)
	encodes(t, symbol("'\x00"), 131, 119, 2, '\'', 0)
	encodes(t, list(symbol("a"), symbol("b")), 131, 108, 0, 0, 0, 1, 119, 1, 'a', 119, 1, 'b')
	encodes(t, list(null(), null()), 131, 108, 0, 0, 0, 1, 106, 106)
	encodes(t, list(list(num(1), null()), num(2), tuple(num(3))), 131, 108, 0, 0, 0, 2, 108, 0, 0, 0, 1, 97, 1, 106, 97, 2, 104, 1, 97, 3)
	encodes(t, pid("n@h", 0x01020304, 0x05060708, 0x090a0b0c), 131, 88, 119, 3, 'n', '@', 'h', 5, 6, 7, 8, 9, 10, 11, 12, 1, 2, 3, 4)
	encodes(t, pid("n@h", 1, math.MaxUint32, 0), 131, 88, 119, 3, 'n', '@', 'h', 255, 255, 255, 255, 0, 0, 0, 0, 0, 0, 0, 1)
	encodes(t, ref("n@h", 0x01020304, 0x05060708, 0x090a0b0c, 0x0d0e0f10), 131, 90, 0, 3, 119, 3, 'n', '@', 'h', 1, 2, 3, 4, 5, 6, 7, 8, 9, 10, 11, 12, 13, 14, 15, 16)
	encodes(t, tuple(pid("a@b", 0, 0, 0), symbol("a@b")), slices.Concat([]byte{131, 104, 2, 88, 119, 3, 'a', '@', 'b'}, make([]byte, 12), []byte{119, 3, 'a', '@', 'b'})...)
}

// P4.1, P4.6: ints at the edges of one byte and of four.
func TestEncodeInts(t *testing.T) {
	for n := range 256 {
		encodes(t, num(int64(n)), 131, 97, byte(n))
	}
	encodes(t, num(256), 131, 98, 0, 0, 1, 0)
	encodes(t, num(-1), 131, 98, 255, 255, 255, 255)
	encodes(t, num(-256), 131, 98, 255, 255, 255, 0)
	encodes(t, num(0x01020304), 131, 98, 1, 2, 3, 4)
	encodes(t, num(api.MaxWire), 131, 98, 127, 255, 255, 255)
	encodes(t, num(api.MinWire), 131, 98, 128, 0, 0, 0)
	for _, n := range []int64{api.MaxWire + 1, api.MinWire - 1, 1 << 32, 1<<32 + 5, -1 << 32, api.MaxInt, api.MinInt} {
		wrong(t, num(n), api.ErrWire, 0)
		wrong(t, tuple(symbol("a"), num(n)), api.ErrWire, 2)
		wrong(t, tuple(list(num(1), num(2), num(n)), num(n)), api.ErrWire, 4)
		wrong(t, list(tuple(pid("n@h", 1, 2, 3), tuple()), num(n), num(n), null()), api.ErrWire, 4)
		wrong(t, chain(255, num(n)), api.ErrWire, 255)
		wrong(t, tuple(append(ones(4094), num(n))...), api.ErrWire, 4095)
	}
}

// P4.1: atoms of every length, tuples and lists at the edges of one byte.
func TestEncodeCounts(t *testing.T) {
	for n := range api.MaxAtom + 1 {
		s := strings.Repeat("x", n)
		encodes(t, symbol(s), append([]byte{131, 119, byte(n)}, s...)...)
	}
	for n := 3; n <= api.MaxName; n++ {
		s := "a@" + strings.Repeat("b", n-2)
		encodes(t, pid(s, 0, 0, 0), slices.Concat([]byte{131, 88, 119, byte(n)}, []byte(s), make([]byte, 12))...)
		encodes(t, ref(s, 0, 0, 0, 0), slices.Concat([]byte{131, 90, 0, 3, 119, byte(n)}, []byte(s), make([]byte, 16))...)
	}
	for _, n := range []int{0, 1, 2, 254, 255} {
		encodes(t, tuple(ones(n)...), append([]byte{131, 104, byte(n)}, bytes.Repeat([]byte{97, 1}, n)...)...)
	}
	for _, n := range []int{256, 257, 511, 512, 4094, 4095} {
		encodes(t, tuple(ones(n)...), append([]byte{131, 105, 0, 0, byte(n >> 8), byte(n)}, bytes.Repeat([]byte{97, 1}, n)...)...)
	}
	for _, n := range []int{1, 2, 254, 255, 256, 257, 4094} {
		want := append([]byte{131, 108, 0, 0, byte(n >> 8), byte(n)}, bytes.Repeat([]byte{97, 1}, n)...)
		encodes(t, listOf(ones(n), null()), append(want, 106)...)
		encodes(t, listOf(ones(n), num(1)), append(want, 97, 1)...)
	}
	encodes(t, chain(255, null()), append(append([]byte{131}, bytes.Repeat([]byte{104, 1}, 255)...), 106)...)
}

// checkFaults is what Encode must tell of a term that is none: Check's fault with its At, and what lies under that.
func checkFaults(t *testing.T, x api.Term) []api.Fault {
	t.Helper()
	var f *api.Fault
	if !errors.As(term.Check(x), &f) {
		t.Fatalf("Check(%.80v) finds nothing", x)
	}
	chain := append(fault(f.At, f.Code), *f)
	if errors.As(f.Under, &f) {
		chain = append(chain, *f)
	}
	return chain
}

// P4.1: what is no term.
func TestEncodeNoTerm(t *testing.T) {
	for _, c := range []struct {
		x    api.Term
		code api.Errno
		at   int
	}{
		{api.Term{}, api.ErrTerm, 0},
		{api.Term{Kind: 8}, api.ErrTerm, 0},
		{api.Term{Kind: -1}, api.ErrTerm, 0},
		{api.Term{Kind: api.KInt, Text: "x"}, api.ErrTerm, 0},
		{api.Term{Kind: api.KNil, Args: ones(1)}, api.ErrTerm, 0},
		{tuple(null(), pid("n@h", 1, 2)), api.ErrTerm, 2},
		{tuple(null(), ref("n@h", 1, 2, 3)), api.ErrTerm, 2},
		{list(), api.ErrTerm, 0},
		{list(num(1)), api.ErrTerm, 0},
		{list(num(1), list(num(1), null())), api.ErrTerm, 0},
		{num(api.MaxInt + 1), api.ErrRange, 0},
		{tuple(num(1), num(api.MinInt-1)), api.ErrRange, 2},
		{tuple(num(1), symbol("ab\xff")), api.ErrUTF, 2},
		{symbol(strings.Repeat("x", 256)), api.ErrLong, 0},
		{tuple(tuple(), pid("nh", 1, 2, 3)), api.ErrName, 2},
		{tuple(tuple(), null(), ref("", 1, 2, 3, 4)), api.ErrName, 3},
		{tuple(ones(4096)...), api.ErrMany, 4096},
		{chain(256, null()), api.ErrDeep, 256},
	} {
		chain := checkFaults(t, c.x)
		if chain[0].Code != c.code || chain[0].At != c.at {
			t.Errorf("Check(%.80v) tells %v, want errno %d at %d", c.x, chain[1], c.code, c.at)
		}
		encodeRefused(t, c.x, chain...)
	}
	loop := tuple(null(), null())
	loop.Args[1] = loop
	encodeRefused(t, loop, checkFaults(t, loop)...)
}

// full is a term of just that many bytes, with as many long atoms as there may be; the short one stands where it is told.
func full(length int, short int) api.Term {
	left := length - 1 - 5 - 1
	var sizes []int
	for ; left > 257+2; left -= 257 {
		sizes = append(sizes, 255)
	}
	if left > 257 {
		sizes, left = append(sizes, 0), left-2
	}
	sizes = slices.Insert(sizes, min(short, len(sizes)), left-2)
	var args []api.Term
	for i, n := range sizes {
		args = append(args, symbol(strings.Repeat(string(rune('a'+i%26)), n)))
	}
	return list(append(args, null())...)
}

// P4.1: terms of MaxTermBytes bytes, and of more; which error is ahead.
func TestEncodeLong(t *testing.T) {
	for _, length := range []int{65534, 65535, 65536} {
		x := full(length, 0)
		b, err := etf.Encode(x)
		if len(b) != length || err != nil {
			t.Errorf("Encode of a term of %d bytes: %d, %v", length, len(b), err)
		}
		encodes(t, x, encoded(x, never)...)
	}
	for length := 65537; length < 65537+520; length++ {
		wrong(t, full(length, 0), api.ErrLong, 0)
	}
	wide := slices.Repeat([]api.Term{symbol(strings.Repeat("x", 255))}, 4095)
	wrong(t, tuple(wide...), api.ErrLong, 0)
	wrong(t, listOf(wide[1:], null()), api.ErrLong, 0)
	wide[4094] = num(api.MaxWire + 1)
	wrong(t, tuple(wide...), api.ErrWire, 4095)
	wide[4094] = symbol("\xff")
	encodeRefused(t, tuple(wide...), checkFaults(t, tuple(wide...))...)
	far := tuple(num(api.MaxWire+1), symbol("\xff"))
	encodeRefused(t, far, checkFaults(t, far)...)
	far = tuple(num(api.MaxWire+1), tuple(num(api.MaxInt+1)))
	encodeRefused(t, far, api.Fault{Layer: "etf", At: 3, Code: api.ErrRange}, api.Fault{Layer: "term", At: 3, Code: api.ErrRange})
}

// P4.1, rule 4: what one call tells is not what another one tells.
func TestEncodeNewMemory(t *testing.T) {
	x := tuple(symbol("abc"), num(5))
	a, _ := etf.Encode(x)
	b, _ := etf.Encode(x)
	want := slices.Clone(b)
	for i := range a[:cap(a)] {
		a[:cap(a)][i] = 0
	}
	if !bytes.Equal(b, want) {
		t.Errorf("two answers share memory: %v", b)
	}
	if c, _ := etf.Encode(x); !bytes.Equal(c, want) {
		t.Errorf("an answer is kept: %v", c)
	}
	encodes(t, api.Term{Kind: api.KTuple, Args: []api.Term{}, Nums: []uint32{}}, 131, 104, 0)
}

// P4.1, P4.4: random terms, against the narrow way of the tests' own writer.
func TestEncodeRandom(t *testing.T) {
	r := rand.New(rand.NewSource(4))
	for i := range 3000 {
		x := randomTerm(r, 1+i%40)
		want := encoded(x, never)
		encodes(t, x, want...)
		back, err := etf.Whole(want, nil)
		if err != nil || !same(back, x) {
			t.Errorf("Whole(%s) = %.200v, %v, want %.200v", fmt.Sprint(want), back, err, x)
		}
		if t.Failed() {
			return
		}
	}
}
