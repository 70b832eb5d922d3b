package term

import (
	"strconv"

	"heddle/api"
	"heddle/atom"
)

// Read is a text's term.
func Read(s string) (api.Term, error) {
	if len(s) > api.MaxTermText {
		return api.Term{}, refuse(0, api.ErrLong)
	}
	r := &reader{text: s}
	var read func(depth int) (api.Term, error)
	read = func(depth int) (api.Term, error) {
		r.skipBlanks()
		if depth > api.MaxDepth {
			return api.Term{}, refuse(r.at, api.ErrDeep)
		}
		inner := func() (api.Term, error) { return read(depth + 1) }
		switch {
		case r.take('{'):
			return r.tuple(inner)
		case r.take('['):
			return r.list(inner)
		}
		return r.leaf()
	}
	t, err := read(1)
	if err == nil {
		err = r.finish()
	}
	if err != nil {
		return api.Term{}, err
	}
	return t, nil
}

// reader goes along a text: what stands left of at has been read.
type reader struct {
	text  string
	at    int
	parts int // that were kept: all but the term itself
}

// finish refuses what stands behind the term, and one that has too many parts: all else that Check asks for holds of what was read.
func (r *reader) finish() error {
	r.skipBlanks()
	if r.at < len(r.text) {
		return refuse(r.at, api.ErrText)
	}
	if r.tooMany() {
		return refuse(api.MaxSize, api.ErrMany)
	}
	return nil
}

func (r *reader) tooMany() bool { return r.parts >= api.MaxSize }

// keep puts a term behind others, unless the whole is too great anyway: a text may tell millions of parts.
func (r *reader) keep(list []api.Term, t api.Term) []api.Term {
	r.parts++
	if r.tooMany() {
		return nil
	}
	return append(list, t)
}

// next is the byte that stands at the place; 0 at the end, with which nothing begins.
func (r *reader) next() byte {
	if r.at == len(r.text) {
		return 0
	}
	return r.text[r.at]
}

// take goes over a byte, if it stands there.
func (r *reader) take(c byte) bool {
	if r.next() != c {
		return false
	}
	r.at++
	return true
}

// must goes over all bytes of a sign, and refuses at the first that is another.
func (r *reader) must(sign string) error {
	for i := range len(sign) {
		if !r.take(sign[i]) {
			return refuse(r.at, api.ErrText)
		}
	}
	return nil
}

func (r *reader) skipBlanks() {
	for r.take(' ') || r.take('\t') || r.take('\n') || r.take('\r') {
	}
}

// takeSign goes over blanks, and a sign, if it stands behind them.
func (r *reader) takeSign(c byte) bool {
	r.skipBlanks()
	return r.take(c)
}

// tuple reads on behind a tuple's bracket.
func (r *reader) tuple(inner func() (api.Term, error)) (api.Term, error) {
	if r.takeSign('}') {
		return api.Term{Kind: api.KTuple}, nil
	}
	args, err := r.elements(inner)
	if err != nil {
		return api.Term{}, err
	}
	return api.Term{Kind: api.KTuple, Args: args}, r.must("}")
}

// list reads on behind a list's bracket.
func (r *reader) list(inner func() (api.Term, error)) (api.Term, error) {
	if r.takeSign(']') {
		return api.Term{Kind: api.KNil}, nil
	}
	elements, err := r.elements(inner)
	if err != nil {
		return api.Term{}, err
	}
	tail := api.Term{Kind: api.KNil}
	if r.take('|') {
		if tail, err = inner(); err != nil {
			return api.Term{}, err
		}
		r.skipBlanks()
	}
	if tail.Kind == api.KList {
		return join(elements, tail), r.must("]")
	}
	return api.Term{Kind: api.KList, Args: r.keep(elements, tail)}, r.must("]")
}

// elements reads terms with commas between them, and the blanks behind the last one.
func (r *reader) elements(inner func() (api.Term, error)) ([]api.Term, error) {
	var list []api.Term
	for {
		t, err := inner()
		if err != nil {
			return nil, err
		}
		list = r.keep(list, t)
		if !r.takeSign(',') {
			return list, nil
		}
	}
}

// leaf reads a term that is neither a tuple nor a list.
func (r *reader) leaf() (api.Term, error) {
	switch c := r.next(); {
	case c == '-' || isDigit(c):
		return r.integer()
	case beginsAtom(c):
		text, err := r.atomText()
		return api.Term{Kind: api.KAtom, Text: text}, err
	case c == '<':
		return r.identity(api.KPid, "<")
	case c == '#':
		return r.identity(api.KRef, "#Ref<")
	}
	return api.Term{}, refuse(r.at, api.ErrText)
}

func isDigit(c byte) bool { return '0' <= c && c <= '9' }

func beginsAtom(c byte) bool { return c == '\'' || 'a' <= c && c <= 'z' }

func (r *reader) integer() (api.Term, error) {
	from := r.at
	if r.take('-') && r.next() == '0' {
		return api.Term{}, refuse(r.at, api.ErrText)
	}
	if r.digits() == "" {
		return api.Term{}, refuse(r.at, api.ErrText)
	}
	n, err := strconv.ParseInt(r.text[from:r.at], 10, 64)
	if err != nil || !isInt(n) {
		return api.Term{}, refuse(from, api.ErrRange)
	}
	return api.Term{Kind: api.KInt, Int: n}, nil
}

// digits goes over a number's digits: a 0 alone, or those up to the first byte that is none.
func (r *reader) digits() string {
	from := r.at
	if r.take('0') {
		return "0"
	}
	for isDigit(r.next()) {
		r.at++
	}
	return r.text[from:r.at]
}

func (r *reader) atomText() (string, error) {
	text, end, err := atom.Scan(r.text, r.at)
	if err != nil {
		return "", wrap(r.at, err)
	}
	r.at = end
	return text, nil
}

// identity reads a pid or a reference, which begins with that sign.
func (r *reader) identity(kind api.Kind, sign string) (api.Term, error) {
	if err := r.must(sign); err != nil {
		return api.Term{}, err
	}
	t := api.Term{Kind: kind}
	var err error
	if t.Text, err = r.name(); err != nil {
		return api.Term{}, err
	}
	if t.Creation, err = r.number(); err != nil {
		return api.Term{}, err
	}
	for range howManyNums(kind) {
		n, err := r.number()
		if err != nil {
			return api.Term{}, err
		}
		t.Nums = append(t.Nums, n)
	}
	return t, r.must(">")
}

// name reads a node's name, written as an atom.
func (r *reader) name() (string, error) {
	if !beginsAtom(r.next()) {
		return "", refuse(r.at, api.ErrText)
	}
	from := r.at
	text, err := r.atomText()
	if err != nil {
		return "", err
	}
	if _, _, err := atom.Node(text); err != nil {
		return "", wrap(from, err)
	}
	return text, nil
}

// number reads a dot and a number of 32 bits.
func (r *reader) number() (uint32, error) {
	if err := r.must("."); err != nil {
		return 0, err
	}
	from := r.at
	n, err := strconv.ParseUint(r.digits(), 10, 32)
	if err != nil {
		return 0, refuse(from, api.ErrText)
	}
	return uint32(n), nil
}
