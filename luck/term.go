package luck

import (
	"heddle/api"
	"heddle/sample"
)

// Term is a term of those that programs of chance ask for, of at most one more than that depth.
func Term(choose Choose, depth int) api.Term {
	var parts []api.Term
	if depth > 0 {
		for range choose(4) {
			parts = append(parts, Term(choose, depth-1))
		}
	}
	switch n := choose(12); {
	case n < 3 && len(parts) > 0:
		return sample.Tuple(parts...)
	case n < 5 && len(parts) > 1 && parts[len(parts)-1].Kind != api.KList:
		return sample.List(parts...)
	case n < 6 && len(parts) > 0:
		return sample.List(append(parts, sample.Nil())...)
	case n < 8:
		return sample.Int(int64(choose(4)) - 1)
	case n < 9:
		return sample.Nil()
	}
	return sample.Atom([...]string{"a", "b", "true", "false", "infinity"}[choose(5)])
}
