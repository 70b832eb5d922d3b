package frame_test

import (
	"bytes"
	"encoding/binary"
	"errors"
	"math"
	"math/rand"
	"strings"
	"testing"

	"heddle/api"
	"heddle/frame"
)

var wrongWidths = []int{math.MinInt, -4, -2, -1, 0, 1, 3, 5, 6, 8, 16, 32, 256 + 2, 1<<32 + 4, math.MaxInt}

// most: the greatest body of each width, told once more.
var most = map[int]int{2: 1024, 4: 131072}

// refused: err is a fault of layer frame with that number at that place, and nothing lies under it.
func refused(t *testing.T, what string, err error, at int, code api.Errno) {
	t.Helper()
	var f *api.Fault
	if !errors.As(err, &f) || *f != (api.Fault{Layer: "frame", At: at, Code: code}) || !errors.Is(err, code) {
		t.Errorf("%s: %v, want errno %d of layer frame at %d, nothing under it", what, err, code, at)
	}
}

// done: the call was not refused.
func done(t *testing.T, what string, err error) {
	t.Helper()
	if err != nil {
		t.Fatalf("%s: %v", what, err)
	}
}

// pattern: bytes of which no short run comes again soon.
func pattern(n int) string {
	b := make([]byte, n)
	for i := range b {
		b[i] = byte(i*7 + i/251*13 + i/65521)
	}
	return string(b)
}

// head: a length of that width, by the library.
func head(width int, n uint32) string {
	if width == 2 {
		return string(binary.BigEndian.AppendUint16(nil, uint16(n)))
	}
	return string(binary.BigEndian.AppendUint32(nil, n))
}

// framed: texts as frames, one behind the other.
func framed(width int, texts ...string) string {
	var all strings.Builder
	for _, text := range texts {
		all.WriteString(head(width, uint32(len(text))) + text)
	}
	return all.String()
}

// splits: Split tells those bodies of those bytes, and so many bytes.
func splits(t *testing.T, width int, b string, n int, want ...string) {
	t.Helper()
	bodies, got, err := frame.Split(width, []byte(b))
	if err != nil || got != n || !equal(bodies, want) {
		t.Errorf("Split(%d, %.40q (%d)) = %.40q (%d), %d, %v, want %.40q (%d), %d", width, b, len(b), bodies, len(bodies), got, err, want, len(want), n)
	}
}

// fails: Split refuses those bytes at that place.
func fails(t *testing.T, width int, b string, at int) {
	t.Helper()
	bodies, n, err := frame.Split(width, []byte(b))
	refused(t, "Split", err, at, api.ErrFrame)
	if len(bodies) != 0 || n != 0 {
		t.Errorf("Split(%d, %.40q) = %d bodies, %d beside an error", width, b, len(bodies), n)
	}
}

func equal(bodies [][]byte, want []string) bool {
	if len(bodies) != len(want) {
		return false
	}
	for i := range want {
		if string(bodies[i]) != want[i] {
			return false
		}
	}
	return true
}

// The chapter's first example.
func TestExamples(t *testing.T) {
	if b, err := frame.Frame(2, []byte("ab")); string(b) != "\x00\x02ab" || err != nil {
		t.Errorf("%q, %v", b, err)
	}
	if b, err := frame.Frame(4, nil); string(b) != "\x00\x00\x00\x00" || err != nil {
		t.Errorf("%q, %v", b, err)
	}
	splits(t, 2, "\x00\x01a\x00\x02b", 3, "a")
}

// P6.1: a length of the width's bytes, the greatest first, and the body.
func TestFrame(t *testing.T) {
	for width, greatest := range most {
		for _, n := range []int{0, 1, 2, 127, 128, 255, 256, 257, 1023, 1024, 1025, 65535, 65536, 65537, 131071, 131072} {
			if n > greatest {
				continue
			}
			body := pattern(n)
			b, err := frame.Frame(width, []byte(body))
			if want := head(width, uint32(n)) + body; err != nil || string(b) != want {
				t.Errorf("Frame(%d, %d bytes) = %.20q (%d), %v", width, n, b, len(b), err)
			}
		}
	}
	for _, empty := range [][]byte{nil, {}} {
		for width := range most {
			if b, err := frame.Frame(width, empty); err != nil || string(b) != strings.Repeat("\x00", width) {
				t.Errorf("Frame(%d, nothing) = %q, %v", width, b, err)
			}
		}
	}
}

// P6.1: ErrArg ahead of ErrLong; nothing beside them.
func TestFrameRefuses(t *testing.T) {
	refuses := func(width, n int, code api.Errno) {
		t.Helper()
		b, err := frame.Frame(width, make([]byte, n))
		refused(t, "Frame", err, 0, code)
		if len(b) != 0 {
			t.Errorf("Frame(%d, %d bytes) tells %d bytes beside an error", width, n, len(b))
		}
	}
	for width, greatest := range most {
		for _, n := range []int{greatest + 1, greatest + 2, 2 * greatest, 1<<18 + 7, 1 << 20} {
			refuses(width, n, api.ErrLong)
		}
	}
	refuses(2, 65536, api.ErrLong)
	refuses(2, 131072, api.ErrLong)
	for _, width := range wrongWidths {
		for _, n := range []int{0, 1, 1024, 1025, 131072, 131073} {
			refuses(width, n, api.ErrArg)
		}
	}
}

// Rule 4: what Frame is given it neither changes nor keeps, nor writes behind it.
func TestFrameIsNewMemory(t *testing.T) {
	for width := range most {
		room := []byte("ahead body behind")
		body := room[6:10]
		first, _ := frame.Frame(width, body)
		second, _ := frame.Frame(width, body)
		if string(room) != "ahead body behind" {
			t.Errorf("width %d: what is handed in is changed: %q", width, room)
		}
		copy(room, "AHEAD BODY BEHIND")
		_ = append(first[:width], "XXXX and more"...)
		if string(second) != framed(width, "body") {
			t.Errorf("width %d: a frame is changed behind the call: %q", width, second)
		}
		if string(room) != "AHEAD BODY BEHIND" {
			t.Errorf("width %d: what was handed in is changed by a frame: %q", width, room)
		}
	}
}

// P6.2: bytes that end inside a length, right behind it, inside a body and right behind it.
func TestSplit(t *testing.T) {
	for width := range most {
		splits(t, width, "", 0)
		texts := []string{"", "a", "", "bc", pattern(300), "", ""}
		whole := framed(width, texts...)
		for n := range len(whole) + 1 {
			var want []string
			end := 0
			for _, text := range texts {
				if end+width+len(text) > n {
					break
				}
				end += width + len(text)
				want = append(want, text)
			}
			splits(t, width, whole[:n], end, want...)
		}
	}
	if bodies, n, err := frame.Split(4, nil); len(bodies) != 0 || n != 0 || err != nil {
		t.Errorf("Split(4, nil) = %q, %d, %v", bodies, n, err)
	}
}

// P6.2: every length of two bytes, and those of four around the edges of each byte and each power.
func TestSplitAtTheGreatest(t *testing.T) {
	for n := range uint32(1 << 16) {
		switch b := head(2, n) + "x"; {
		case n > 1024:
			fails(t, 2, b, 0)
			fails(t, 2, b[:2], 0)
		case n > 1:
			splits(t, 2, b, 0)
		case n == 1:
			splits(t, 2, b, 3, "x")
		default:
			splits(t, 2, b, 2, "")
		}
	}
	lengths := []uint32{131071, 131072, 131073, 131074, 0x0100_0000, 0x0200_0000, 0x8000_0000, 0xffff_ffff, 0xff00_0000, 0x0003_0000, 0x0100_0001}
	for i := range 32 {
		lengths = append(lengths, 1<<i-1, 1<<i, 1<<i+1)
	}
	for _, n := range lengths {
		if n > 131072 {
			fails(t, 4, head(4, n), 0)
			fails(t, 4, head(4, n)+"x", 0)
		} else if n > 1 {
			splits(t, 4, head(4, n)+"x", 0)
		}
	}
	for width, greatest := range most {
		text := pattern(greatest)
		splits(t, width, framed(width, text), width+greatest, text)
		splits(t, width, framed(width, text, text)+"\x00", 2*(width+greatest), text, text)
		splits(t, width, framed(width, text)[:width+greatest-1], 0)
		fails(t, width, framed(width, text+"x"), 0)
	}
}

// P6.2: the place is that of the first length that is too great; one that is not all there is none, nor are bytes of a body that is not.
func TestSplitRefuses(t *testing.T) {
	for width, greatest := range most {
		bad := head(width, uint32(greatest)+1)
		for _, texts := range [][]string{{""}, {"a"}, {"", ""}, {"ab", "", "c"}, {pattern(greatest)}, {pattern(greatest), "x", pattern(1000)}} {
			ahead := framed(width, texts...)
			fails(t, width, ahead+bad, len(ahead))
			fails(t, width, ahead+bad+"x", len(ahead))
			fails(t, width, ahead+bad+framed(width, "x")+bad, len(ahead))
			fails(t, width, ahead+bad+pattern(2*greatest), len(ahead))
			splits(t, width, ahead+bad[:width-1], len(ahead), texts...)
			splits(t, width, ahead+head(width, uint32(width)+1)+bad, len(ahead), texts...)
			splits(t, width, ahead+framed(width, bad+bad), len(ahead)+3*width, append(texts[:len(texts):len(texts)], bad+bad)...)
		}
		for n := range width {
			splits(t, width, strings.Repeat("\xff", n), 0)
		}
		fails(t, width, strings.Repeat("\xff", width), 0)
	}
	for _, width := range wrongWidths {
		for _, b := range []string{"", "\x00\x00\x00\x00", "\xff\xff\xff\xff\xff\xff\xff\xff", framed(4, "a")} {
			bodies, n, err := frame.Split(width, []byte(b))
			refused(t, "Split", err, 0, api.ErrArg)
			if len(bodies) != 0 || n != 0 {
				t.Errorf("Split(%d, %q) = %q, %d beside an error", width, b, bodies, n)
			}
		}
	}
}

// Rule 4: bodies share nothing with what was handed in, nor with one another, nor with another answer.
func TestBodiesAreNewMemory(t *testing.T) {
	for width := range most {
		text := framed(width, "one", "", "two", "three")
		b := []byte(text)
		first, _, err := frame.Split(width, b)
		done(t, "Split", err)
		second, _, _ := frame.Split(width, b)
		if string(b) != text {
			t.Errorf("width %d: what is handed in is changed: %q", width, b)
		}
		for _, body := range first {
			for i := range body {
				body[i] = '#'
			}
			_ = append(body, "and much more than that"...)
		}
		if string(b) != text || !equal(second, []string{"one", "", "two", "three"}) {
			t.Errorf("width %d: a body that is changed changes %q, %q", width, b, second)
		}
		for i := range b {
			b[i] = '!'
		}
		if !equal(second, []string{"one", "", "two", "three"}) || !equal(first, []string{"###", "", "###", "#####"}) {
			t.Errorf("width %d: bytes that are changed behind Split change its bodies: %q, %q", width, first, second)
		}
	}
}

// P6.8: what Frame makes, one behind the other, Split tells, with as many bytes.
func TestThereAndBack(t *testing.T) {
	r := rand.New(rand.NewSource(6))
	for width, greatest := range most {
		for lap := range 200 {
			var all bytes.Buffer
			var want []string
			for range r.Intn(8) {
				n := []int{0, 1, r.Intn(20), r.Intn(greatest + 1), greatest}[r.Intn(4+lap%2)]
				body := make([]byte, n)
				r.Read(body)
				b, err := frame.Frame(width, body)
				done(t, "Frame", err)
				all.Write(b)
				want = append(want, string(body))
			}
			splits(t, width, all.String(), all.Len(), want...)
		}
	}
}

// FuzzSplit: the bodies that Split tells are, as frames, the bytes that it says they have; what stays is no whole frame.
func FuzzSplit(f *testing.F) {
	f.Add(true, []byte("\x00\x01a\x00\x02b"))
	f.Add(false, []byte("\x00\x00\x00\x00\x00\x00\x00\x01a\x00\x02\x00\x01"))
	f.Fuzz(func(t *testing.T, narrow bool, b []byte) {
		width := 4
		if narrow {
			width = 2
		}
		bodies, n, err := frame.Split(width, b)
		if err != nil {
			var fault *api.Fault
			if !errors.As(err, &fault) || fault.At < 0 || fault.At+width > len(b) {
				t.Fatalf("Split(%d, %q): %v", width, b, err)
			}
			refused(t, "Split", err, fault.At, api.ErrFrame)
			bodies, n, err = frame.Split(width, b[:fault.At])
			if err != nil || n != fault.At {
				t.Fatalf("Split(%d, %q) up to its fault: %d, %v", width, b[:fault.At], n, err)
			}
			return
		}
		var again []byte
		for _, body := range bodies {
			framed, err := frame.Frame(width, body)
			done(t, "Frame", err)
			again = append(again, framed...)
		}
		if len(again) != n || !bytes.HasPrefix(b, again) {
			t.Fatalf("Split(%d, %q) = %q, %d", width, b, bodies, n)
		}
		if rest := b[n:]; len(rest) >= width {
			long := uint64(0)
			for _, c := range rest[:width] {
				long = long<<8 + uint64(c)
			}
			if long > uint64(most[width]) || uint64(len(rest)) >= uint64(width)+long {
				t.Fatalf("Split(%d, %q) ends at %d", width, b, n)
			}
		}
	})
}
