package frame_test

import (
	"encoding/binary"
	"errors"
	"math/rand"
	"strconv"
	"strings"
	"testing"

	"heddle/api"
	"heddle/frame"
)

// model is a reader told once more: all that was ever fed is kept, and how much of it was told.
type model struct {
	fed   string
	known api.Framing
}

// length: the number that stands at the beginning of what is not told; false, if it is not all there.
func (m *model) length() (int, bool) {
	rest := []byte(m.fed[m.known.Bytes:])
	if len(rest) < m.known.Width {
		return 0, false
	}
	if m.known.Width == 2 {
		return int(binary.BigEndian.Uint16(rest)), true
	}
	return int(binary.BigEndian.Uint32(rest)), true
}

// step is one call: f feeds text, n asks for the next body, w widens.
type step struct {
	call byte
	text string
}

func (x step) String() string { return string(x.call) + " " + strconv.Quote(x.text) }

// do: what a call answers, and with which number it is refused.
func (m *model) do(x step) (string, bool, api.Errno) {
	if m.known.Dead {
		return "", false, api.ErrFrame
	}
	switch x.call {
	case 'f':
		if m.known.Held+len(x.text) > api.MaxHeld {
			return "", false, api.ErrLong
		}
		m.fed += x.text
		m.known.Held += len(x.text)
		return "", false, api.OK
	case 'w':
		if m.known.Width == 4 {
			return "", false, api.ErrTwice
		}
		m.known.Width = 4
		return "", false, api.OK
	}
	return m.next()
}

func (m *model) next() (string, bool, api.Errno) {
	n, ok := m.length()
	if ok && n > most[m.known.Width] {
		m.known.Dead = true
		return "", false, api.ErrFrame
	}
	from := m.known.Bytes + m.known.Width
	if !ok || from+n > len(m.fed) {
		return "", false, api.OK
	}
	if n == 0 && m.known.Width == 4 {
		m.known.Ticks++
	}
	m.known.Frames++
	m.known.Bytes = from + n
	m.known.Held = len(m.fed) - m.known.Bytes
	return m.fed[from : from+n], true, api.OK
}

// perform: the call, of the reader itself.
func (x step) perform(r *frame.Reader) (string, bool, error) {
	switch x.call {
	case 'f':
		return "", false, r.Feed([]byte(x.text))
	case 'w':
		return "", false, r.Widen()
	}
	b, ok, err := r.Next()
	return string(b), ok, err
}

// pair is a reader and its model, and the calls that were done to both.
type pair struct {
	r    *frame.Reader
	m    model
	path []step
}

func couple(t *testing.T, width int) *pair {
	t.Helper()
	return &pair{r: open(t, width), m: model{known: api.Framing{Width: width}}}
}

// try does a call to both: they agree on all that is to be seen.
func (p *pair) try(t *testing.T, x step) {
	t.Helper()
	p.path = append(p.path, x)
	text, told, code := p.m.do(x)
	got, ok, err := x.perform(p.r)
	want := api.Fault{Layer: "frame", Code: code}
	if code == api.ErrFrame {
		want.At = p.m.known.Bytes
	}
	var fault *api.Fault
	switch {
	case got != text, ok != told, code == api.OK && err != nil:
		t.Fatalf("%v: %.40q, %t, %v, want %.40q, %t, errno %d", p.path, got, ok, err, text, told, code)
	case code != api.OK && (!errors.As(err, &fault) || *fault != want):
		t.Fatalf("%v: %v, want %+v", p.path, err, want)
	}
	if now := p.r.State(); now != p.m.known {
		t.Fatalf("%v: State %+v, want %+v", p.path, now, p.m.known)
	}
}

// drain asks until nothing is told any more, and once again.
func (p *pair) drain(t *testing.T) {
	t.Helper()
	for frames := -1; frames != p.m.known.Frames; {
		frames = p.m.known.Frames
		p.try(t, step{call: 'n'})
	}
	p.try(t, step{call: 'n'})
}

// Every row of up to six calls of a small set.
func TestAllShortRows(t *testing.T) {
	calls := []step{{'n', ""}, {'w', ""}, {'f', "\x00"}, {'f', "\x00\x01"}, {'f', "\x00\x00\x00"}, {'f', "\x05"}, {'f', ""}}
	var walk func(width int, path []step, depth int)
	walk = func(width int, path []step, depth int) {
		if depth == 0 {
			p := couple(t, width)
			for _, x := range path {
				p.try(t, x)
			}
			p.drain(t)
			return
		}
		for _, x := range calls {
			walk(width, append(path[:len(path):len(path)], x), depth-1)
		}
	}
	for width := range most {
		walk(width, nil, 6)
	}
}

// Long rows of random calls, of two readers in turn.
func TestRandomRows(t *testing.T) {
	r := rand.New(rand.NewSource(66))
	for range 600 {
		two := [2]*pair{couple(t, 2), couple(t, 2+2*r.Intn(2))}
		for range 150 {
			two[r.Intn(2)].try(t, some(r))
		}
		for _, p := range two {
			p.drain(t)
		}
	}
}

// some: a random call. Fed bytes are small, and mostly 0, so that there are many frames; seldom great ones.
func some(r *rand.Rand) step {
	switch k := r.Intn(100); {
	case k < 45:
		return step{call: 'n'}
	case k < 46:
		return step{call: 'w'}
	}
	b := make([]byte, r.Intn(9))
	for i := range b {
		if r.Intn(3) == 0 {
			b[i] = byte(r.Intn(4))
		}
	}
	if r.Intn(300) == 0 {
		b = append(b, 255)
	}
	return step{'f', string(b)}
}

// cuts: the text in pieces, cut behind each byte whose bit is set.
func cuts(text string, mask int) []string {
	var pieces []string
	from := 0
	for i := range len(text) {
		if mask>>i&1 == 1 || i == len(text)-1 {
			pieces = append(pieces, text[from:i+1])
			from = i + 1
		}
	}
	return pieces
}

// gather feeds the pieces, and asks at most so often behind each; at the end until nothing comes. It answers all bodies, and the number and place of the fault, if there is one.
func gather(t *testing.T, width int, pieces []string, often int) ([][]byte, *api.Fault) {
	t.Helper()
	r := open(t, width)
	var bodies [][]byte
	var fault *api.Fault
	ask := func(times int) {
		for ; times > 0 && fault == nil; times-- {
			b, ok, err := r.Next()
			if errors.As(err, &fault) || !ok {
				return
			}
			bodies = append(bodies, b)
		}
	}
	for _, piece := range pieces {
		if err := r.Feed([]byte(piece)); err != nil {
			refused(t, "Feed of a dead reader", err, r.State().Bytes, api.ErrFrame)
		}
		ask(often)
	}
	ask(len(strings.Join(pieces, "")) + 1)
	return bodies, fault
}

// agrees: what a reader told of pieces is what Split tells of them all, up to a length that is too great.
func agrees(t *testing.T, width int, pieces []string, often int) {
	t.Helper()
	got, fault := gather(t, width, pieces, often)
	all := []byte(strings.Join(pieces, ""))
	bodies, _, err := frame.Split(width, all)
	var want *api.Fault
	if errors.As(err, &want) {
		bodies, _, err = frame.Split(width, all[:want.At])
		done(t, "Split", err)
	}
	texts := make([]string, len(bodies))
	for i, body := range bodies {
		texts[i] = string(body)
	}
	if !equal(got, texts) || (fault == nil) != (want == nil) || fault != nil && *fault != *want {
		t.Fatalf("width %d, %q, asked %d times: %q, %v, but Split tells %q, %v", width, pieces, often, got, fault, texts, want)
	}
}

// P6.7: all ways to cut some bytes, and to ask behind each piece never, once, twice and for all.
func TestAllChunks(t *testing.T) {
	for width, texts := range map[int][]string{
		2: {framed(2, "", "ab", "c") + "\x00", framed(2, "a", "") + "\x04\x01\x00\x00\x00"},
		4: {framed(4, "", "ab") + "\x00\x00", framed(4, "") + "\x00\x02\x00\x01\x00\x00\x00"},
	} {
		for _, text := range texts {
			for mask := range 1 << (len(text) - 1) {
				for _, often := range []int{0, 1, 2, len(text)} {
					agrees(t, width, cuts(text, mask), often)
				}
			}
		}
	}
}

// P6.7: long rows of frames of all sizes, in random pieces; in some of them stands a length that is too great.
func TestRandomChunks(t *testing.T) {
	r := rand.New(rand.NewSource(67))
	for width, greatest := range most {
		for lap := range 300 {
			var texts []string
			for range r.Intn(12) {
				texts = append(texts, pattern([]int{0, r.Intn(3), r.Intn(300), r.Intn(greatest + 1), greatest}[r.Intn(5)]))
			}
			all := framed(width, texts...)
			if lap%4 == 0 {
				all += head(width, uint32(greatest+1+r.Intn(9))) + framed(width, "behind")
			} else if lap%4 == 1 {
				all = all[:r.Intn(len(all)+1)]
			}
			var pieces []string
			for rest := all; len(rest) > 0; {
				n := min(len(rest), []int{r.Intn(4), r.Intn(100), r.Intn(2 * greatest)}[r.Intn(3)])
				if len(rest) > 1<<16 {
					n = min(len(rest), r.Intn(1<<17))
				}
				pieces, rest = append(pieces, rest[:n]), rest[n:]
			}
			agrees(t, width, pieces, r.Intn(4))
		}
	}
}

// FuzzCalls takes bytes as a row of calls: the first of two says which, the second how many bytes of those behind it are fed.
func FuzzCalls(f *testing.F) {
	f.Add(true, []byte("f\x05\x00\x01a\x00\x00n\x00n\x00w\x00f\x04\x00\x00\x00\x00n\x00"))
	f.Add(false, []byte("f\x04\xff\x00\x00\x00n\x00f\x00w\x00"))
	f.Fuzz(func(t *testing.T, narrow bool, b []byte) {
		width := 4
		if narrow {
			width = 2
		}
		p := couple(t, width)
		for len(b) >= 2 {
			x, n := step{call: "fnfw"[b[0]%4]}, int(b[1])
			if b[0] == 'f' || b[0] == 'n' || b[0] == 'w' {
				x.call = b[0]
			}
			b = b[2:]
			if x.call == 'f' {
				n = min(n, len(b))
				x.text, b = string(b[:n]), b[n:]
			}
			p.try(t, x)
		}
		p.drain(t)
	})
}
