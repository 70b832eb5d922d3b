package mix_test

import (
	"math"
	"math/big"
	"math/rand"
	"strconv"
	"testing"

	"heddle/api"
	"heddle/mix"
)

// next: a challenge that may be had.
func next(t *testing.T, g *mix.Gen) uint32 {
	t.Helper()
	n, err := g.Next()
	if err != nil {
		t.Fatalf("Next: %v", err)
	}
	return n
}

// words: the challenges of a seed once more, by numbers without bound that are cut.
func words(seed uint64, count int) []uint32 {
	s := number(strconv.FormatUint(seed, 10))
	var told []uint32
	for range count {
		cut(s.Add(s, number("11400714819323198485")))
		z := new(big.Int).Set(s)
		z.Xor(z, new(big.Int).Rsh(z, 30))
		cut(z.Mul(z, number("13787848793156543929")))
		z.Xor(z, new(big.Int).Rsh(z, 27))
		cut(z.Mul(z, number("10723151780598845931")))
		z.Xor(z, new(big.Int).Rsh(z, 31))
		told = append(told, uint32(z.Rsh(z, 32).Uint64()))
	}
	return told
}

// P7.4: the first challenges of some seeds, worked out elsewhere by the chapter's words, and what Count tells behind each.
func TestNext(t *testing.T) {
	for _, c := range []struct {
		seed uint64
		want []uint32
	}{
		{0, []uint32{0xe220a839, 0x6e789e6a, 0x06c45d18, 0xf88bb8a8, 0x1b39896a, 0x53cb9f0c, 0x2c829abe, 0xc584133a}},
		{1, []uint32{0x910a2dec, 0xbeeb8da1, 0xf893a2ee, 0x71c18690, 0x71bb54d8, 0xc34d0bff, 0xe099ec6c, 0x85e7bb0f}},
		{5, []uint32{0x63033b0c, 0xc097314d, 0x3b92d3f0, 0x196e4ec2, 0x301e278f, 0x616f9630, 0xfc4de41f, 0x82d78c13}},
		{math.MaxUint64, []uint32{0xe4d97177, 0xe99ff867, 0x382ff84c, 0x6d1db36c, 0xb4a0472e, 0xd31dadbd, 0xf14f2cf8, 0x405da438}},
	} {
		g := mix.New(c.seed)
		if g.Count() != 0 {
			t.Errorf("seed %d: %d were told ahead of the first", c.seed, g.Count())
		}
		for i, want := range c.want {
			if got := next(t, g); got != want || g.Count() != i+1 || g.Count() != i+1 {
				t.Errorf("seed %d: challenge %d is %#x, want %#x; Count %d", c.seed, i, got, want, g.Count())
			}
		}
	}
}

// P7.4: many seeds against the words once more.
func TestNextAgainstTheWords(t *testing.T) {
	seeds := []uint64{math.MaxInt64, 1 << 63, 1<<32 - 1, 1 << 32, math.MaxUint64 - 1, 11400714819323198485, math.MaxUint64 - 11400714819323198485, math.MaxUint64 - 11400714819323198485 + 1}
	r := rand.New(rand.NewSource(7))
	for range 50 {
		seeds = append(seeds, r.Uint64())
	}
	for _, seed := range seeds {
		g := mix.New(seed)
		for i, want := range words(seed, 40) {
			if got := next(t, g); got != want {
				t.Fatalf("seed %d: challenge %d is %d, want %d", seed, i, got, want)
			}
		}
	}
	g := mix.New(0)
	for i, want := range words(0, 5000) {
		if got := next(t, g); got != want || g.Count() != i+1 {
			t.Fatalf("challenge %d is %d, want %d; Count %d", i, got, want, g.Count())
		}
	}
}

// P7.4 and rule 5: two generators of one seed tell the same, and calls of one do not move the other.
func TestTwoGenerators(t *testing.T) {
	want := words(5, 60)
	a, b, c := mix.New(5), mix.New(5), mix.New(6)
	if a == b {
		t.Fatal("two generators are one")
	}
	for i := range 20 {
		if got := next(t, a); got != want[i] || a.Count() != i+1 || b.Count() != 0 {
			t.Fatalf("challenge %d is %d, want %d; Count %d, %d", i, got, want[i], a.Count(), b.Count())
		}
	}
	r := rand.New(rand.NewSource(5))
	told := map[*mix.Gen]int{a: 20, b: 0}
	for range 60 {
		g := []*mix.Gen{a, b}[r.Intn(2)]
		if got := next(t, g); got != want[told[g]] {
			t.Fatalf("challenge %d is %d, want %d", told[g], got, want[told[g]])
		}
		told[g]++
		next(t, c)
		digestOf(t, "secret", uint32(told[g]))
		if a.Count() != told[a] || b.Count() != told[b] {
			t.Fatalf("Count %d, %d, want %d, %d", a.Count(), b.Count(), told[a], told[b])
		}
	}
	if got := next(t, mix.New(5)); got != want[0] {
		t.Errorf("a new generator begins with %d, want %d", got, want[0])
	}
}

// Rule 3: a generator that is nil, or that no call made; asked again and again it stays so.
func TestGeneratorThatNobodyMade(t *testing.T) {
	g := mix.New(5)
	next(t, g)
	byHand := *g
	for name, none := range map[string]*mix.Gen{"nil": nil, "zero": {}, "new": new(mix.Gen), "copied": &byHand} {
		for range 3 {
			n, err := none.Next()
			refused(t, name+": Next", err, 0, api.ErrZero)
			if n != 0 || none.Count() != 0 {
				t.Errorf("%s: Next tells %d, Count %d", name, n, none.Count())
			}
		}
	}
	if g.Count() != 1 || next(t, g) != words(5, 2)[1] {
		t.Error("a generator is moved by a copy of it")
	}
}
