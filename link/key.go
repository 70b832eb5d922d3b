package link

import (
	"cmp"
	"maps"
	"slices"

	"heddle/api"
	"heddle/atom"
	"heddle/term"
)

// none is what stands in a map that is asked for its keys alone.
type none struct{}

// pid is one as a key: two are the same just if their terms are. The zero one is nobody's.
type pid struct {
	node       string
	creation   uint32
	id, serial uint32
}

// ref is likewise.
type ref struct {
	node     string
	creation uint32
	nums     [3]uint32
}

// watch is by which ref who watches.
type watch struct {
	by  ref
	who pid
}

// whom is who is watched: a pid, or a name on a node, which may be the empty atom.
type whom struct {
	pid  pid
	name string
	node string // empty just of a pid
}

// pidOf is a term as a key, and whether it is a pid.
func pidOf(t api.Term) (pid, bool) {
	if t.Kind != api.KPid || term.Check(t) != nil {
		return pid{}, false
	}
	return pid{t.Text, t.Creation, t.Nums[0], t.Nums[1]}, true
}

// refOf is likewise.
func refOf(t api.Term) (ref, bool) {
	if t.Kind != api.KRef || term.Check(t) != nil {
		return ref{}, false
	}
	return ref{t.Text, t.Creation, [3]uint32{t.Nums[0], t.Nums[1], t.Nums[2]}}, true
}

func (p pid) term() api.Term {
	return api.Term{Kind: api.KPid, Text: p.node, Creation: p.creation, Nums: []uint32{p.id, p.serial}}
}

func (r ref) term() api.Term {
	return api.Term{Kind: api.KRef, Text: r.node, Creation: r.creation, Nums: slices.Clone(r.nums[:])}
}

func (w watch) term() api.Term { return w.by.term() }

// The order of keys is that of their terms.

func (p pid) compare(q pid) int {
	return cmp.Or(atom.Compare(p.node, q.node), cmp.Compare(p.creation, q.creation), cmp.Compare(p.id, q.id), cmp.Compare(p.serial, q.serial))
}

func (r ref) compare(s ref) int {
	return cmp.Or(atom.Compare(r.node, s.node), cmp.Compare(r.creation, s.creation), slices.Compare(r.nums[:], s.nums[:]))
}

func (w watch) compare(v watch) int { return cmp.Or(w.by.compare(v.by), w.who.compare(v.who)) }

// whomOf is the pid; where there is none, the name on the node.
func whomOf(p pid, name, node string) whom {
	if p != (pid{}) {
		return whom{pid: p}
	}
	return whom{name: name, node: node}
}

func (w whom) isName() bool { return w.node != "" }

// home is on which node it is.
func (w whom) home() string {
	if w.isName() {
		return w.node
	}
	return w.pid.node
}

// what is what its monitor tells.
func (w whom) what() api.Term {
	if w.isName() {
		return api.Term{Kind: api.KTuple, Args: []api.Term{symbol(w.name), symbol(w.node)}}
	}
	return w.pid.term()
}

// told is how a signal tells it: a pid, or a Name.
func (w whom) told() (api.Term, string) {
	if w.isName() {
		return api.Term{}, w.name
	}
	return w.pid.term(), ""
}

func symbol(s string) api.Term { return api.Term{Kind: api.KAtom, Text: s} }

// sorted is a map's keys in their order: that of the map is not to be seen.
func sorted[K comparable, V any](m map[K]V, compare func(a, b K) int) []K {
	return slices.SortedFunc(maps.Keys(m), compare)
}

func terms[K any](keys []K, tell func(K) api.Term) []api.Term {
	all := make([]api.Term, 0, len(keys))
	for _, key := range keys {
		all = append(all, tell(key))
	}
	return all
}
