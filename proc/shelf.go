package proc

import (
	"cmp"
	"maps"
	"slices"
)

// shelf keeps things by their keys.
type shelf[K cmp.Ordered, V any] map[K]V

// keys stand in their order: that of the map is not to be seen.
func (s shelf[K, V]) keys() []K { return slices.Sorted(maps.Keys(s)) }

func (s shelf[K, V]) drop(key K) { delete(s, key) }

// line is who stands one behind the other.
type line[T comparable] []T

// join puts somebody behind all others; whoever stands in the line keeps the place.
func (l *line[T]) join(x T) {
	if !slices.Contains(*l, x) {
		*l = append(*l, x)
	}
}

func (l *line[T]) leave(x T) {
	*l = slices.DeleteFunc(*l, func(y T) bool { return y == x })
}

// turn puts the first one behind all others.
func (l line[T]) turn() {
	first := l[0]
	copy(l, l[1:])
	l[len(l)-1] = first
}
