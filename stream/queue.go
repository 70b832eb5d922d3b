package stream

import "bytes"

// queue is bytes that are taken in the order in which they were put.
type queue struct {
	bytes []byte
	gone  int // so many of them, from the first on, are taken
}

func (q *queue) size() int { return len(q.bytes) - q.gone }

func (q *queue) put(b []byte) { q.bytes = append(q.bytes, b...) }

// take is the first n bytes; there are so many. They cannot grow into those behind them, and stay as they are whatever is put or taken later.
func (q *queue) take(n int) []byte {
	end := q.gone + n
	first := q.bytes[q.gone:end:end]
	q.gone = end
	// Taken bytes are not kept for ever. They are dropped when no more stay than go, so that no more bytes are copied than were taken.
	if q.gone >= q.size() {
		q.bytes, q.gone = bytes.Clone(q.bytes[q.gone:]), 0
	}
	return first
}
