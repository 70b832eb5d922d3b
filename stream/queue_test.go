package stream

import (
	"bytes"
	"testing"
)

// What is taken stays as it is, whatever the queue does later, and nothing that is put grows into it.
func TestTakenBytesStay(t *testing.T) {
	var q queue
	q.put([]byte("abcdef"))
	first := q.take(2)
	if len(first) != cap(first) {
		t.Errorf("%d bytes are taken, with room for %d", len(first), cap(first))
	}
	_ = append(first, "XY"...)
	q.put([]byte("gh"))
	second := q.take(3)
	q.put([]byte("ij"))
	if string(first) != "ab" || string(second) != "cde" || string(q.take(q.size())) != "fghij" {
		t.Errorf("%q, %q", first, second)
	}
}

// A queue keeps no more taken bytes than bytes to be taken: none, if there are none.
func TestQueueForgets(t *testing.T) {
	var q queue
	q.put(bytes.Repeat([]byte("x"), 1000))
	for n := 999; n >= 0; n-- {
		q.take(1)
		if q.size() != n || q.gone > n || len(q.bytes) > 2*n {
			t.Fatalf("%d to be taken: %d are told, %d taken ones are kept", n, q.size(), q.gone)
		}
	}
	if cap(q.bytes) != 0 {
		t.Errorf("an empty queue has room for %d", cap(q.bytes))
	}
}
