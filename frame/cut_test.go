package frame

import (
	"testing"

	"heddle/api"
)

// A body that is cut out lies in its frame alone: nothing that is put behind it grows into the next one.
func TestCutEndsWithItsFrame(t *testing.T) {
	for width, text := range map[int]string{2: "\x00\x02ab\x00\x01c", 4: "\x00\x00\x00\x02ab\x00\x00\x00\x01c"} {
		b := []byte(text)
		body, whole, err := cut(width, b, 0)
		if string(body) != "ab" || !whole || err != nil || cap(body) != len(body) {
			t.Errorf("cut(%d, %q) = %q with room for %d, %t, %v", width, text, body, cap(body), whole, err)
		}
		_ = append(body, "XYZ"...)
		if string(b) != text {
			t.Errorf("bytes behind a body are changed: %q", b)
		}
		if &body[0] != &b[width] {
			t.Error("a body that is cut out is a copy")
		}
	}
}

// A body that is told is none of the reader's bytes, though these stay where they are.
func TestToldBodyIsACopy(t *testing.T) {
	r, _ := New(2)
	r.Feed([]byte("\x00\x01a\x00\x05bcdef"))
	before := r.bytes
	body, _, _ := r.Next()
	if string(body) != "a" || &r.bytes[0] != &before[0] || &body[0] == &before[2] {
		t.Errorf("%q", body)
	}
}

// A reader keeps no more bytes of told frames than bytes that are held: none, if none are.
func TestReaderForgets(t *testing.T) {
	r, _ := New(4)
	r.Feed(make([]byte, 4000))
	for n := 999; n >= 0; n-- {
		if _, ok, err := r.Next(); !ok || err != nil {
			t.Fatal(ok, err)
		}
		if held := r.known.Held; held != 4*n || len(r.bytes) > 2*held {
			t.Fatalf("%d bytes are held, %d are kept", held, len(r.bytes))
		}
	}
	if cap(r.bytes) != 0 {
		t.Errorf("a reader that holds nothing has room for %d", cap(r.bytes))
	}
}

// A dead reader knows how many bytes it holds, but keeps none of them.
func TestDeadReaderForgets(t *testing.T) {
	r, _ := New(2)
	r.Feed(make([]byte, 2))
	r.Feed([]byte{255, 255, 1, 2, 3})
	r.Next()
	if _, _, err := r.Next(); err == nil {
		t.Fatal("alive")
	}
	if r.bytes != nil || r.State() != (api.Framing{Width: 2, Held: 5, Frames: 1, Bytes: 2, Dead: true}) {
		t.Errorf("%d bytes are kept: %+v", cap(r.bytes), r.State())
	}
}
