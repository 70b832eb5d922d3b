package heap

import (
	"strings"

	"heddle/api"
)

// A word's two lowest bits tell what it is, all others are a number. An object's first word has the tag of the empty list, which no other word has: so it is known wherever a word points.
const (
	placeTag  = 0
	numberTag = 1
	atomTag   = 2
	firstTag  = 3
	tagMask   = 3
	tagBits   = 2
)

const emptyList api.Word = firstTag

// An object's first word says its Kind in these bits, and above them how many elements a tuple has, or a pid's creation.
const (
	kindMask = 7
	kindBits = 3
)

// How many words an object has. Behind the first one a cell holds its head and its tail; a tuple its elements; a pid its node's name, the id and the serial; a reference its node's name, its creation and its numbers.
const (
	cellLength = 3
	pidLength  = 4
	refLength  = 6
)

func placeWord(at int) api.Word { return api.Word(at)<<tagBits | placeTag }

func numberWord(n int64) api.Word { return api.Word(n)<<tagBits | numberTag }

func firstWord(kind api.Kind, n int64) api.Word {
	return (api.Word(n)<<kindBits|api.Word(kind))<<tagBits | firstTag
}

func placeOf(w api.Word) int { return int(w >> tagBits) }

func numberOf(w api.Word) int64 { return int64(w) >> tagBits }

// kindOfFirst is the Kind that an object's first word says; 0 of any other word.
func kindOfFirst(w api.Word) api.Kind {
	if w&tagMask != firstTag {
		return 0
	}
	return api.Kind(w >> tagBits & kindMask)
}

// countOfFirst is the number that stands above the Kind.
func countOfFirst(w api.Word) int { return int(w >> tagBits >> kindBits) }

// length is how many words the object with that first word has.
func length(first api.Word) int {
	switch kindOfFirst(first) {
	case api.KRef:
		return refLength
	case api.KPid:
		return pidLength
	case api.KTuple:
		return 1 + countOfFirst(first)
	}
	return cellLength
}

// kindOf is the Kind of what a word stands for; 0, if it stands for nothing.
func (h *Heap) kindOf(w api.Word) api.Kind {
	switch w & tagMask {
	case placeTag:
		if at := w >> tagBits; at >= api.Word(h.from) && at < api.Word(h.end) {
			return kindOfFirst(h.words[at])
		}
	case numberTag:
		if n := numberOf(w); n >= api.MinInt && n <= api.MaxInt {
			return api.KInt
		}
	case atomTag:
		if w>>tagBits < api.Word(len(h.atoms.texts)) {
			return api.KAtom
		}
	case firstTag:
		if w == emptyList {
			return api.KNil
		}
	}
	return 0
}

// know tells whether all words stand for something.
func (h *Heap) know(l []api.Word) bool {
	for _, w := range l {
		if h.kindOf(w) == 0 {
			return false
		}
	}
	return true
}

// first is the first word of an object.
func (h *Heap) first(w api.Word) api.Word { return h.words[placeOf(w)] }

// held is what stands behind the first word of an object, in place.
func (h *Heap) held(w api.Word) []api.Word {
	at := placeOf(w)
	return h.words[at+1 : at+length(h.words[at])]
}

// names gives atoms numbers. A table of package atom has a limit, but atoms take no words: a heap has room for any number of them.
type names struct {
	texts   []string
	numbers map[string]int
}

func noNames() names { return names{numbers: map[string]int{}} }

func (l *names) word(text string) api.Word {
	n, ok := l.numbers[text]
	if !ok {
		// The text may be cut from a far greater one, which the heap must not keep alive.
		text = strings.Clone(text)
		n = len(l.texts)
		l.texts = append(l.texts, text)
		l.numbers[text] = n
	}
	return api.Word(n)<<tagBits | atomTag
}

func (l *names) text(w api.Word) string { return l.texts[w>>tagBits] }
