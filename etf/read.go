package etf

import (
	"errors"

	"heddle/api"
	"heddle/atom"
)

// Decode is the term with which bytes begin, and how many it has.
func Decode(b []byte, atoms *atom.Table) (api.Term, int, error) {
	got, err := read(b, atoms)
	if err != nil {
		return api.Term{}, 0, err
	}
	putAll(atoms, got.unknown)
	return got.term, got.length, nil
}

// Whole is the term that bytes are.
func Whole(b []byte, atoms *atom.Table) (api.Term, error) {
	got, err := read(b, atoms)
	if err != nil {
		return api.Term{}, err
	}
	if got.length < len(b) {
		return api.Term{}, refuse(got.length, api.ErrRest)
	}
	putAll(atoms, got.unknown)
	return got.term, nil
}

// reading is a term that has been read, while the table is still as it was: Whole may yet refuse it.
type reading struct {
	term    api.Term
	length  int
	unknown []string // the atoms that the table must take
}

func read(b []byte, atoms *atom.Table) (reading, error) {
	r := &reader{bytes: b}
	t, err := r.term()
	if err != nil {
		return reading{}, err
	}
	unknown := missing(r.atoms, atoms)
	if len(unknown) > atoms.Free() {
		return reading{}, refuse(0, api.ErrFull)
	}
	return reading{term: t, length: r.at, unknown: unknown}, nil
}

// missing is which of the texts the table lacks, each one once, in their order. No table lacks none.
func missing(texts []string, atoms *atom.Table) []string {
	if atoms == nil {
		return nil
	}
	var lacking []string
	seen := map[string]struct{}{}
	for _, s := range texts {
		_, known := atoms.Find(s)
		_, twice := seen[s]
		if !known && !twice {
			seen[s] = struct{}{}
			lacking = append(lacking, s)
		}
	}
	return lacking
}

// putAll cannot be refused: the texts are atoms, and their room has been counted.
func putAll(atoms *atom.Table, texts []string) {
	for _, s := range texts {
		atoms.Put(s)
	}
}

// reader reads a term part by part. At the first fault it panics with it, which ends all parts that are still open; term catches that.
type reader struct {
	bytes []byte
	at    int      // of the next byte
	tagAt int      // of the tag of the part whose own bytes are being read: its faults are told there
	parts int      // how many have begun
	atoms []string // the term's, names of nodes too, in their order
}

func (r *reader) stop(at int, code api.Errno) { panic(refuse(at, code)) }

// stopIf stops for what package atom has refused.
func (r *reader) stopIf(err error) {
	var under *api.Fault
	if errors.As(err, &under) {
		panic(pass(r.tagAt, under))
	}
}

func (r *reader) term() (t api.Term, err error) {
	defer func() {
		if fault, ok := recover().(*api.Fault); ok {
			t, err = api.Term{}, fault
		}
	}()
	if len(r.bytes) == 0 || r.bytes[0] != version {
		r.stop(0, api.ErrVersion)
	}
	r.at = 1
	return r.part(1), nil
}

func (r *reader) part(depth int) api.Term { return r.body(r.tag(depth), depth) }

// tag begins a part.
func (r *reader) tag(depth int) byte {
	r.tagAt = r.at
	switch {
	case r.parts == api.MaxSize:
		r.stop(r.at, api.ErrMany)
	case depth > api.MaxDepth:
		r.stop(r.at, api.ErrDeep)
	case r.at == len(r.bytes):
		r.stop(r.at, api.ErrCut)
	case !isTag(r.bytes[r.at]):
		r.stop(r.at, api.ErrTag)
	}
	r.parts++
	return r.piece(1)[0]
}

// body reads what stands behind a tag.
func (r *reader) body(tag byte, depth int) api.Term {
	width := 1
	switch tag {
	case tagLongInt:
		width = 4
		fallthrough
	case tagInt:
		return api.Term{Kind: api.KInt, Int: int64(int32(r.number(width)))}
	case tagLongTuple:
		width = 4
		fallthrough
	case tagTuple:
		return api.Term{Kind: api.KTuple, Args: r.more(nil, r.number(width), depth+1)}
	case tagList:
		return api.Term{Kind: api.KList, Args: r.list(nil, depth)}
	case tagAtom, tagLongAtom:
		return r.atom(tag)
	case tagPid:
		name, nums := r.name(3)
		return api.Term{Kind: api.KPid, Text: name, Creation: nums[2], Nums: nums[:2]}
	case tagRef:
		if r.number(2) != refNums {
			r.stop(r.tagAt, api.ErrCount)
		}
		name, nums := r.name(1 + refNums)
		return api.Term{Kind: api.KRef, Text: name, Creation: nums[0], Nums: nums[1:]}
	}
	return api.Term{Kind: api.KNil}
}

// piece takes so many of a part's own bytes.
func (r *reader) piece(n int) []byte {
	end := r.at + n
	if end > api.MaxTermBytes {
		r.stop(r.tagAt, api.ErrLong)
	}
	if end > len(r.bytes) {
		r.stop(r.tagAt, api.ErrCut)
	}
	b := r.bytes[r.at:end]
	r.at = end
	return b
}

func (r *reader) number(width int) uint32 { return number(r.piece(width)) }

func number(b []byte) uint32 {
	var n uint32
	for _, digit := range b {
		n = n<<8 | uint32(digit)
	}
	return n
}

// more reads so many parts behind those that are there. Room is made part by part: a count of a few bytes may say far more than come.
func (r *reader) more(args []api.Term, n uint32, depth int) []api.Term {
	for range n {
		args = append(args, r.part(depth))
	}
	return args
}

// list reads elements and a tail behind those that are there; the parts of a tail that is a list go on with them, however many such tails follow one another.
func (r *reader) list(args []api.Term, depth int) []api.Term {
	n := r.number(4)
	if n == 0 {
		r.stop(r.tagAt, api.ErrCount)
	}
	args = r.more(args, n, depth+1)
	tag := r.tag(depth + 1)
	if tag == tagList {
		return r.list(args, depth+1)
	}
	return append(args, r.body(tag, depth+1))
}

func (r *reader) atom(tag byte) api.Term {
	text, _ := r.text(tag, 0)
	_, err := atom.Quote(text)
	r.stopIf(err)
	return api.Term{Kind: api.KAtom, Text: text}
}

// name reads a node's name and so many numbers behind it.
func (r *reader) name(count int) (string, []uint32) {
	at := r.at
	tag := r.piece(1)[0]
	if !isAtomTag(tag) {
		r.stop(at, api.ErrTag)
	}
	text, behind := r.text(tag, 4*count)
	_, _, err := atom.Node(text)
	r.stopIf(err)
	nums := make([]uint32, count)
	for i := range nums {
		nums[i] = number(behind[4*i : 4*i+4])
	}
	return text, nums
}

// text reads an atom's text, and in one piece with it so many bytes behind it.
func (r *reader) text(tag byte, behind int) (string, []byte) {
	width := 1
	if tag == tagLongAtom {
		width = 2
	}
	length := int(r.number(width))
	b := r.piece(length + behind)
	text := string(b[:length])
	r.atoms = append(r.atoms, text)
	return text, b[length:]
}
