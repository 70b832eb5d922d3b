package heap

import "heddle/api"

// Term is the term of a word.
func (h *Heap) Term(w api.Word) (api.Term, error) {
	if !h.made() {
		return api.Term{}, refuse(api.ErrZero)
	}
	if h.kindOf(w) == 0 {
		return api.Term{}, refuse(api.ErrWord)
	}
	r := reader{heap: h}
	t := r.read(w, 1)
	if r.size > api.MaxSize {
		return api.Term{}, refuse(api.ErrMany)
	}
	if r.depth > api.MaxDepth {
		return api.Term{}, refuse(api.ErrDeep)
	}
	return t, nil
}

// reader knows how many parts it has read, and how deep they stood.
type reader struct {
	heap        *Heap
	size, depth int
}

func (r *reader) full() bool { return r.size > api.MaxSize }

// read is the term of a word. Behind one part too many it reads nothing more: what is shared may be far greater, written out, than the heap is. Parts too deep are read, for there may be too many, which is told ahead of it.
func (r *reader) read(w api.Word, depth int) api.Term {
	r.size++
	r.depth = max(r.depth, depth)
	t := api.Term{Kind: r.heap.kindOf(w)}
	switch t.Kind {
	case api.KInt:
		t.Int = numberOf(w)
	case api.KAtom:
		t.Text = r.heap.atoms.text(w)
	case api.KRef:
		held := r.heap.held(w)
		t.Text, t.Creation, t.Nums = r.heap.atoms.text(held[0]), uint32(numberOf(held[1])), numbersOf(held[2:])
	case api.KPid:
		held := r.heap.held(w)
		t.Text, t.Creation, t.Nums = r.heap.atoms.text(held[0]), uint32(countOfFirst(r.heap.first(w))), numbersOf(held[1:])
	case api.KList, api.KTuple:
		t.Args = r.readArgs(w, t.Kind, depth+1)
	}
	return t
}

// readArgs reads the elements of a tuple, or those of all a list's cells and what stands behind the last one.
func (r *reader) readArgs(w api.Word, kind api.Kind, depth int) []api.Term {
	var args []api.Term
	held := r.heap.held(w)
	switch kind {
	case api.KList:
		for r.heap.kindOf(held[1]) == api.KList && !r.full() {
			args = append(args, r.read(held[0], depth))
			held = r.heap.held(held[1])
		}
		// The last cell holds the last two of the Args, as a tuple holds all of them.
		fallthrough
	case api.KTuple:
		for _, part := range held {
			if r.full() {
				break
			}
			args = append(args, r.read(part, depth))
		}
	}
	return args
}

func numbersOf(l []api.Word) []uint32 {
	nums := make([]uint32, len(l))
	for i, w := range l {
		nums[i] = uint32(numberOf(w))
	}
	return nums
}

// Split is a list's head and tail.
func (h *Heap) Split(w api.Word) (api.Word, api.Word, error) {
	if !h.made() {
		return 0, 0, refuse(api.ErrZero)
	}
	if h.kindOf(w) != api.KList {
		return 0, 0, refuse(api.ErrWord)
	}
	cell := h.held(w)
	return cell[0], cell[1], nil
}

// Elem is a tuple's element, from 0 on.
func (h *Heap) Elem(w api.Word, i int) (api.Word, error) {
	if !h.made() {
		return 0, refuse(api.ErrZero)
	}
	if h.kindOf(w) != api.KTuple {
		return 0, refuse(api.ErrWord)
	}
	elements := h.held(w)
	if i < 0 || i >= len(elements) {
		return 0, refuse(api.ErrRange)
	}
	return elements[i], nil
}
