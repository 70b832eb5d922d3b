package etf

import (
	"errors"
	"math"

	"heddle/api"
	"heddle/term"
)

// Encode is a term's bytes.
func Encode(t api.Term) ([]byte, error) {
	var under *api.Fault
	if errors.As(term.Check(t), &under) {
		return nil, pass(under.At, under)
	}
	w := &writer{bytes: []byte{version}}
	if err := w.part(t); err != nil {
		return nil, err
	}
	if len(w.bytes) > api.MaxTermBytes {
		return nil, refuse(0, api.ErrLong)
	}
	return w.bytes, nil
}

// Length is how many bytes a term has.
func Length(t api.Term) (int, error) {
	b, err := Encode(t)
	return len(b), err
}

// writer writes a right term part by part.
type writer struct {
	bytes []byte
	parts int // how many have begun
}

func (w *writer) part(t api.Term) error {
	at := w.parts
	w.parts++
	switch t.Kind {
	case api.KInt:
		if t.Int < api.MinWire || t.Int > api.MaxWire {
			return refuse(at, api.ErrWire)
		}
		w.int(t.Int)
	case api.KAtom:
		w.atom(t.Text)
	case api.KRef:
		w.put(tagRef, 0, refNums)
		w.atom(t.Text)
		w.words(t.Creation)
		w.words(t.Nums...)
	case api.KPid:
		w.put(tagPid)
		w.atom(t.Text)
		w.words(t.Nums...)
		w.words(t.Creation)
	case api.KTuple:
		w.tuple(len(t.Args))
	case api.KNil:
		w.put(tagNil)
	case api.KList:
		w.put(tagList)
		w.words(uint32(len(t.Args) - 1))
	}
	for _, arg := range t.Args {
		if err := w.part(arg); err != nil {
			return err
		}
	}
	return nil
}

func (w *writer) put(b ...byte) { w.bytes = append(w.bytes, b...) }

func (w *writer) words(nums ...uint32) {
	for _, n := range nums {
		w.put(byte(n>>24), byte(n>>16), byte(n>>8), byte(n))
	}
}

func (w *writer) int(n int64) {
	if 0 <= n && n <= math.MaxUint8 {
		w.put(tagInt, byte(n))
		return
	}
	w.put(tagLongInt)
	w.words(uint32(n))
}

// atom needs the short tag alone: MaxAtom bytes are counted by one byte.
func (w *writer) atom(text string) {
	w.put(tagAtom, byte(len(text)))
	w.bytes = append(w.bytes, text...)
}

func (w *writer) tuple(n int) {
	if n <= math.MaxUint8 {
		w.put(tagTuple, byte(n))
		return
	}
	w.put(tagLongTuple)
	w.words(uint32(n))
}
