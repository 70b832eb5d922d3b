package heap

import "heddle/api"

// Collect keeps what roots reach; the roots where they are now.
func (h *Heap) Collect(roots ...api.Word) ([]api.Word, error) {
	if !h.made() {
		return nil, refuse(api.ErrZero)
	}
	if !h.know(roots) {
		return nil, refuse(api.ErrWord)
	}
	old := h.atoms
	h.atoms = noNames()
	h.from = len(h.words)/2 - h.from
	h.end = h.from
	now := make([]api.Word, len(roots))
	for i, root := range roots {
		now[i] = h.move(root, old)
	}
	// What is moved here holds words of there, which are moved behind it, till all have come.
	for at := h.from; at < h.end; at++ {
		h.words[at] = h.move(h.words[at], old)
	}
	return now, nil
}

// move is a word of the half that is left, as it is in the half that is in use now.
func (h *Heap) move(w api.Word, old names) api.Word {
	switch w & tagMask {
	case placeTag:
		return h.moveObject(w)
	case atomTag:
		return h.atoms.word(old.text(w))
	}
	return w
}

// moveObject copies an object that has not come yet. Its new word is laid where its first word stood, and known by its tag.
func (h *Heap) moveObject(w api.Word) api.Word {
	first := h.first(w)
	if first&tagMask == placeTag {
		return first
	}
	now := h.put(first, h.held(w)...)
	h.words[placeOf(w)] = now
	return now
}
