package luck_test

import (
	"math/rand"
	"strings"
	"testing"

	"heddle/compile"
	"heddle/luck"
	"heddle/sample"
	"heddle/term"
)

func chooser(seed int64) luck.Choose { return rand.New(rand.NewSource(seed)).Intn }

// Every text is a right program; the same numbers make the same text, others seldom do.
func TestSource(t *testing.T) {
	met := map[string]int{}
	for seed := range int64(300) {
		depth := int(seed % 5)
		text := luck.Source(chooser(seed), depth)
		if _, err := compile.Source(text); err != nil {
			t.Fatalf("%s: %v", text, err)
		}
		if text != luck.Source(chooser(seed), depth) || text != strings.Join(luck.Forms(chooser(seed), depth), "\n") {
			t.Fatalf("seed %d: another text", seed)
		}
		met[text]++
	}
	if len(met) < 290 {
		t.Errorf("%d texts of 300", len(met))
	}
}

// Every term is one, of at most one more than the depth; the same numbers make the same term.
func TestTerm(t *testing.T) {
	kinds := map[int]int{}
	for seed := range int64(1000) {
		x := luck.Term(chooser(seed), int(seed%4))
		_, depth, err := term.Measure(x)
		if err != nil || depth > int(seed%4)+1 || !sample.Same(x, luck.Term(chooser(seed), int(seed%4))) {
			t.Fatalf("seed %d: %v, depth %d, %v", seed, x, depth, err)
		}
		kinds[int(x.Kind)]++
	}
	for _, kind := range []int{1, 2, 5, 6, 7} {
		if kinds[kind] < 20 {
			t.Errorf("kinds: %v", kinds)
		}
	}
}

// Bytes are spent one by one; behind them there is nothing but 0.
func TestBytes(t *testing.T) {
	given := []byte{3, 255, 10, 7}
	b := luck.Bytes(given)
	for i, want := range []int{3, 1, 0, 7, 0, 0} {
		if got := b.Choose([]int{4, 2, 5, 255, 100, 1}[i]); got != want || len(b) != max(0, 3-i) {
			t.Errorf("choice %d: %d, want %d; %d bytes are left", i, got, want, len(b))
		}
	}
	if string(given) != "\x03\xff\n\a" {
		t.Errorf("%v is changed", given)
	}
}
