package etf_test

import (
	"encoding/binary"
	"errors"
	"math/rand"

	"heddle/api"
	"heddle/atom"
)

// answer is what Decode must tell of bytes: a term, its length and its atoms, or a chain of faults.
type answer struct {
	term   api.Term
	length int
	atoms  []string
	faults []api.Fault
}

// expect tells it without recursion: open tuples and lists lie on a stack, whose height is the depth.
func expect(b []byte) answer {
	if len(b) == 0 || b[0] != 131 {
		return answer{faults: fault(0, api.ErrVersion)}
	}
	type frame struct {
		kind api.Kind
		left uint64
		args []api.Term
	}
	var stack []frame
	var atoms []string
	at := 1
	for number := 0; ; number++ {
		switch {
		case number == 4096:
			return answer{faults: fault(at, api.ErrMany)}
		case len(stack) == 256:
			return answer{faults: fault(at, api.ErrDeep)}
		case at == len(b):
			return answer{faults: fault(at, api.ErrCut)}
		}
		own := ownBytes(b, at)
		if own.faults != nil {
			return answer{faults: own.faults}
		}
		at = own.end
		done := own.part
		if own.named {
			atoms = append(atoms, done.Text)
		}
		if own.holds > 0 {
			stack = append(stack, frame{kind: done.Kind, left: own.holds})
			continue
		}
		for {
			if len(stack) == 0 {
				return answer{term: done, length: at, atoms: atoms}
			}
			top := &stack[len(stack)-1]
			top.left--
			if top.left == 0 && top.kind == api.KList && done.Kind == api.KList {
				top.args = append(top.args, done.Args...)
			} else {
				top.args = append(top.args, done)
			}
			if top.left > 0 {
				break
			}
			done = api.Term{Kind: top.kind, Args: top.args}
			stack = stack[:len(stack)-1]
		}
	}
}

func fault(at int, code api.Errno) []api.Fault {
	return []api.Fault{{Layer: "etf", At: at, Code: code}}
}

func under(at int, err error) []api.Fault {
	var f *api.Fault
	if !errors.As(err, &f) {
		return nil
	}
	return append(fault(at, f.Code), *f)
}

// own is a part as far as its own bytes say it, and how many parts stand in it.
type own struct {
	part   api.Term
	named  bool
	holds  uint64
	end    int
	faults []api.Fault
}

// ownBytes reads a part's own bytes from the place of its tag on, which is ahead of b's end.
func ownBytes(b []byte, at int) own {
	behind := at
	var faults []api.Fault
	// take moves behind so many bytes; it tells none of them behind a fault.
	take := func(n int) []byte {
		switch {
		case faults != nil:
		case behind+n > 65536:
			faults = fault(at, api.ErrLong)
		case behind+n > len(b):
			faults = fault(at, api.ErrCut)
		default:
			behind += n
			return b[behind-n : behind]
		}
		return make([]byte, n)
	}
	fail := func(f []api.Fault) {
		if faults == nil {
			faults = f
		}
	}
	text := func(tag byte, extra int) (string, []byte) {
		n := 0
		if tag == 119 {
			n = int(take(1)[0])
		} else {
			n = int(binary.BigEndian.Uint16(take(2)))
		}
		l := take(n + extra)
		return string(l[:n]), l[n:]
	}
	name := func(kind api.Kind, extra int) (api.Term, []byte) {
		tagAt := behind
		tag := take(1)[0]
		if tag != 118 && tag != 119 {
			fail(fault(tagAt, api.ErrTag))
		}
		s, rest := text(tag, extra)
		_, _, err := atom.Node(s)
		fail(under(at, err))
		return api.Term{Kind: kind, Text: s}, rest
	}
	word := binary.BigEndian.Uint32
	var o own
	switch b[at] {
	case 97:
		take(1)
		o.part = num(int64(take(1)[0]))
	case 98:
		take(1)
		o.part = num(int64(int32(word(take(4)))))
	case 118, 119:
		take(1)
		s, _ := text(b[at], 0)
		_, err := atom.Quote(s)
		fail(under(at, err))
		o.part, o.named = symbol(s), true
	case 104:
		take(1)
		o.part, o.holds = tuple(), uint64(take(1)[0])
	case 105:
		take(1)
		o.part, o.holds = tuple(), uint64(word(take(4)))
	case 106:
		take(1)
		o.part = null()
	case 108:
		take(1)
		n := uint64(word(take(4)))
		if n == 0 {
			fail(fault(at, api.ErrCount))
		}
		o.part, o.holds = list(), n+1
	case 88:
		take(1)
		p, l := name(api.KPid, 12)
		p.Nums, p.Creation = []uint32{word(l), word(l[4:])}, word(l[8:])
		o.part, o.named = p, true
	case 90:
		take(1)
		if l := take(2); l[0] != 0 || l[1] != 3 {
			fail(fault(at, api.ErrCount))
		}
		p, l := name(api.KRef, 16)
		p.Creation, p.Nums = word(l), []uint32{word(l[4:]), word(l[8:]), word(l[12:])}
		o.part, o.named = p, true
	default:
		fail(fault(at, api.ErrTag))
	}
	if faults != nil {
		return own{faults: faults}
	}
	o.end = behind
	return o
}

// randomTerm is a term that may go over the wire, of about that many parts.
func randomTerm(r *rand.Rand, parts int) api.Term {
	atoms := []string{"", "a", "b", "ok", "Ab", "n@h", "m@h", "é", "a b", "it's"}
	names := []string{"n@h", "m@h", "a-b@h.c"}
	if parts > 1 && r.Intn(4) > 0 {
		var args []api.Term
		for left := parts - 1; left > 0; {
			n := 1 + r.Intn(left)
			args = append(args, randomTerm(r, n))
			left -= n
		}
		if r.Intn(2) == 0 {
			return tuple(args...)
		}
		return listOf(args, randomTerm(r, 1))
	}
	switch r.Intn(7) {
	case 0:
		return num(int64(int32(r.Uint32())))
	case 1:
		return num(int64(r.Intn(300) - 20))
	case 2:
		return pid(names[r.Intn(3)], r.Uint32(), r.Uint32(), r.Uint32())
	case 3:
		return ref(names[r.Intn(3)], r.Uint32(), r.Uint32(), r.Uint32(), r.Uint32())
	case 4:
		return null()
	case 5:
		return tuple()
	}
	return symbol(atoms[r.Intn(len(atoms))])
}

// listOf is the list of elements, one at least, and a tail that is none.
func listOf(elements []api.Term, tail api.Term) api.Term {
	return list(append(append([]api.Term(nil), elements...), tail)...)
}

// wire writes a term in any of the grammar's ways: choose tells whether the wide one, and where lists are cut into tails.
func wire(t api.Term, choose func() bool) []byte {
	word := func(n uint32) []byte { return binary.BigEndian.AppendUint32(nil, n) }
	words := func(l []uint32) []byte {
		var b []byte
		for _, n := range l {
			b = append(b, word(n)...)
		}
		return b
	}
	text := func(s string) []byte {
		if choose() {
			return append([]byte{118, byte(len(s) >> 8), byte(len(s))}, s...)
		}
		return append([]byte{119, byte(len(s))}, s...)
	}
	cat := func(l ...[]byte) []byte {
		var b []byte
		for _, x := range l {
			b = append(b, x...)
		}
		return b
	}
	var b []byte
	switch t.Kind {
	case api.KInt:
		if t.Int >= 0 && t.Int < 256 && !choose() {
			return []byte{97, byte(t.Int)}
		}
		return append([]byte{98}, word(uint32(t.Int))...)
	case api.KAtom:
		return text(t.Text)
	case api.KPid:
		return cat([]byte{88}, text(t.Text), words(t.Nums), word(t.Creation))
	case api.KRef:
		return cat([]byte{90, 0, 3}, text(t.Text), word(t.Creation), words(t.Nums))
	case api.KNil:
		return []byte{106}
	case api.KTuple:
		if len(t.Args) < 256 && !choose() {
			b = []byte{104, byte(len(t.Args))}
		} else {
			b = append([]byte{105}, word(uint32(len(t.Args)))...)
		}
		for _, arg := range t.Args {
			b = append(b, wire(arg, choose)...)
		}
		return b
	}
	last := len(t.Args) - 1
	n := 0
	for n < last && (n == 0 || !choose()) {
		b = append(b, wire(t.Args[n], choose)...)
		n++
	}
	b = cat([]byte{108}, word(uint32(n)), b)
	if n < last {
		return append(b, wire(list(t.Args[n:]...), choose)...)
	}
	return append(b, wire(t.Args[last], choose)...)
}

// encoded is the term's bytes with the version ahead.
func encoded(t api.Term, choose func() bool) []byte { return append([]byte{131}, wire(t, choose)...) }

func never() bool { return false }
