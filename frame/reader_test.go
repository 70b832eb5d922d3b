package frame_test

import (
	"strings"
	"testing"

	"heddle/api"
	"heddle/frame"
)

// open: a reader of that width, to which those pieces were fed.
func open(t *testing.T, width int, pieces ...string) *frame.Reader {
	t.Helper()
	r, err := frame.New(width)
	done(t, "New", err)
	feed(t, r, pieces...)
	return r
}

func feed(t *testing.T, r *frame.Reader, pieces ...string) {
	t.Helper()
	for _, piece := range pieces {
		done(t, "Feed", r.Feed([]byte(piece)))
	}
}

// shows: that is known of the reader.
func shows(t *testing.T, what string, r *frame.Reader, want api.Framing) {
	t.Helper()
	if got := r.State(); got != want {
		t.Errorf("%s: State %+v, want %+v", what, got, want)
	}
}

// tells: the reader tells those bodies, one behind the other.
func tells(t *testing.T, r *frame.Reader, texts ...string) {
	t.Helper()
	for _, text := range texts {
		if b, ok, err := r.Next(); err != nil || !ok || string(b) != text {
			t.Fatalf("Next() = %.40q (%d), %t, %v, want %.40q (%d)", b, len(b), ok, err, text, len(text))
		}
	}
}

// waits: the reader has no whole frame, and asking changes nothing.
func waits(t *testing.T, r *frame.Reader) {
	t.Helper()
	before := r.State()
	for range 2 {
		if b, ok, err := r.Next(); b != nil || ok || err != nil {
			t.Fatalf("Next() = %.40q, %t, %v, want nil, false, nil", b, ok, err)
		}
	}
	shows(t, "Next of no whole frame", r, before)
}

// fallen: every call but State refuses with that number at that place, tells nothing beside it, and changes nothing.
func fallen(t *testing.T, what string, r *frame.Reader, at int, code api.Errno) {
	t.Helper()
	before := r.State()
	for range 2 {
		for _, n := range []int{0, 1, 5, api.MaxHeld, api.MaxHeld + 1} {
			refused(t, what+": Feed", r.Feed(make([]byte, n)), at, code)
		}
		b, ok, err := r.Next()
		refused(t, what+": Next", err, at, code)
		if b != nil || ok {
			t.Errorf("%s: Next() = %q, %t beside an error", what, b, ok)
		}
		refused(t, what+": Widen", r.Widen(), at, code)
		shows(t, what, r, before)
	}
}

// The chapter's examples of readers.
func TestReaderExamples(t *testing.T) {
	r := open(t, 4, "\x00\x00\x00")
	waits(t, r)
	feed(t, r, "\x01", "\x07")
	tells(t, r, "\x07")
	shows(t, "example 2", r, api.Framing{Width: 4, Frames: 1, Bytes: 5})

	r = open(t, 4, "\xff\x00\x00\x00")
	_, _, err := r.Next()
	refused(t, "Next", err, 0, api.ErrFrame)
	refused(t, "Feed", r.Feed([]byte("x")), 0, api.ErrFrame)
}

// P6.3: a reader of two widths alone, with all else 0.
func TestNew(t *testing.T) {
	for width := range most {
		r := open(t, width)
		shows(t, "New", r, api.Framing{Width: width})
		waits(t, r)
	}
	for _, width := range wrongWidths {
		r, err := frame.New(width)
		refused(t, "New", err, 0, api.ErrArg)
		if r != nil {
			t.Errorf("New(%d) makes a reader beside an error", width)
		}
	}
}

// P6.4 to P6.6: a reader that nobody made refuses every call, whatever else applies, and stays what it is.
func TestNobodysReader(t *testing.T) {
	nobodys := map[string]*frame.Reader{"nil": nil, "new": new(frame.Reader), "literal": {}}
	for width := range most {
		alive, dead := *open(t, width, framed(width, "a", "b")), open(t, width, "\xff\xff\xff\xff")
		dead.Next()
		gone := *dead
		nobodys["copied "+string(rune('0'+width))] = &alive
		nobodys["copied when it was dead "+string(rune('0'+width))] = &gone
	}
	for what, r := range nobodys {
		shows(t, what, r, api.Framing{})
		fallen(t, what, r, 0, api.ErrZero)
	}
}

// What State tells behind each call, and no other call than those that the chapter names changes anything.
func TestReader(t *testing.T) {
	r := open(t, 2)
	feed(t, r, "\x00")
	shows(t, "a byte of a length", r, api.Framing{Width: 2, Held: 1})
	waits(t, r)
	feed(t, r, "\x03")
	shows(t, "a length", r, api.Framing{Width: 2, Held: 2})
	waits(t, r)
	feed(t, r, "ab")
	waits(t, r)
	feed(t, r, "c\x00\x00\x00")
	shows(t, "a frame and more", r, api.Framing{Width: 2, Held: 8})
	tells(t, r, "abc")
	shows(t, "a frame is told", r, api.Framing{Width: 2, Held: 3, Frames: 1, Bytes: 5})
	tells(t, r, "")
	shows(t, "of width 2 there are no ticks", r, api.Framing{Width: 2, Held: 1, Frames: 2, Bytes: 7})
	waits(t, r)
	done(t, "Widen", r.Widen())
	shows(t, "Widen", r, api.Framing{Width: 4, Held: 1, Frames: 2, Bytes: 7})
	feed(t, r, "\x00\x00")
	waits(t, r)
	feed(t, r, "\x00", "\x00\x00\x00\x01", "x\x00\x00\x00\x00")
	tells(t, r, "")
	shows(t, "of width 4 there are", r, api.Framing{Width: 4, Held: 9, Frames: 3, Ticks: 1, Bytes: 11})
	tells(t, r, "x")
	shows(t, "a byte is no tick", r, api.Framing{Width: 4, Held: 4, Frames: 4, Ticks: 1, Bytes: 16})
	tells(t, r, "")
	shows(t, "all is told", r, api.Framing{Width: 4, Frames: 5, Ticks: 2, Bytes: 20})
	waits(t, r)
}

// P6.4: no bytes are bytes, too.
func TestFeedOfNothing(t *testing.T) {
	for width := range most {
		r := open(t, width)
		done(t, "Feed(nil)", r.Feed(nil))
		done(t, "Feed of an empty list", r.Feed([]byte{}))
		shows(t, "nothing fed", r, api.Framing{Width: width})
		waits(t, r)
		feed(t, r, "\x00", "", framed(width, "ab")[1:], "", "")
		shows(t, "nothing fed between", r, api.Framing{Width: width, Held: width + 2})
		tells(t, r, "ab")
		feed(t, r, "")
		waits(t, r)
	}
}

// P6.4: MaxHeld bytes may be held, one more may not; frames that are told make room, frames that are not make none.
func TestFeedAtTheLimit(t *testing.T) {
	for width, greatest := range most {
		step := width + greatest
		all := strings.Repeat(framed(width, pattern(greatest)), api.MaxHeld/step+2)
		r := open(t, width)
		long := func(n int) {
			t.Helper()
			before := r.State()
			refused(t, "Feed", r.Feed([]byte(all[:n])), 0, api.ErrLong)
			shows(t, "Feed of too many", r, before)
		}
		long(api.MaxHeld + 1)
		long(len(all))
		feed(t, r, all[:api.MaxHeld-1])
		long(2)
		long(api.MaxHeld)
		feed(t, r, all[api.MaxHeld-1:api.MaxHeld])
		shows(t, "full", r, api.Framing{Width: width, Held: api.MaxHeld})
		long(1)
		long(api.MaxHeld + 1)
		feed(t, r, "")

		tells(t, r, pattern(greatest))
		shows(t, "full, less a frame", r, api.Framing{Width: width, Held: api.MaxHeld - step, Frames: 1, Bytes: step})
		long(step + 1)
		feed(t, r, all[api.MaxHeld:api.MaxHeld+step])
		long(1)
		shows(t, "full once more", r, api.Framing{Width: width, Held: api.MaxHeld, Frames: 1, Bytes: step})

		n := 1
		for ; r.State().Held >= step; n++ {
			tells(t, r, pattern(greatest))
		}
		waits(t, r)
		shows(t, "told", r, api.Framing{Width: width, Held: api.MaxHeld + step - n*step, Frames: n, Bytes: n * step})
		fed := api.MaxHeld + step
		feed(t, r, all[fed:min(len(all), (n+1)*step)])
		tells(t, r, pattern(greatest))
		shows(t, "all is told", r, api.Framing{Width: width, Frames: n + 1, Bytes: (n + 1) * step})
	}
}

// At once what MaxHeld allows, of an empty reader and of one from which frames were told.
func TestFeedAllAtOnce(t *testing.T) {
	ticks := strings.Repeat("\x00", api.MaxHeld)
	r := open(t, 4, ticks)
	for range 1000 {
		tells(t, r, "")
	}
	feed(t, r, ticks[:4000])
	refused(t, "Feed", r.Feed([]byte{0}), 0, api.ErrLong)
	for range api.MaxHeld / 4 {
		if b, ok, err := r.Next(); len(b) != 0 || !ok || err != nil {
			t.Fatalf("Next() = %q, %t, %v", b, ok, err)
		}
	}
	waits(t, r)
	frames := api.MaxHeld/4 + 1000
	shows(t, "ticks", r, api.Framing{Width: 4, Frames: frames, Ticks: frames, Bytes: 4 * frames})
	feed(t, r, ticks)
	refused(t, "Feed", r.Feed([]byte{0}), 0, api.ErrLong)
}

// P6.5: the greatest body is told, a length that is one above is refused as soon as it is there; first, and behind whole frames.
func TestNextAtTheGreatest(t *testing.T) {
	for width, greatest := range most {
		for _, texts := range [][]string{nil, {""}, {"a", "", "bc"}, {pattern(greatest), "x"}} {
			ahead := framed(width, texts...)
			r := open(t, width, ahead+framed(width, pattern(greatest)))
			tells(t, r, texts...)
			tells(t, r, pattern(greatest))
			waits(t, r)

			bad := head(width, uint32(greatest)+1)
			r = open(t, width, ahead+bad[:width-1])
			tells(t, r, texts...)
			waits(t, r)
			feed(t, r, bad[width-1:])
			know := r.State()
			if know.Dead || know.Held != width || know.Bytes != len(ahead) {
				t.Fatalf("a reader that was not asked: %+v", know)
			}
			_, _, err := r.Next()
			refused(t, "Next", err, len(ahead), api.ErrFrame)
			know.Dead = true
			shows(t, "dead", r, know)
			fallen(t, "dead", r, len(ahead), api.ErrFrame)
		}
	}
}

// P6.5: a dead reader stays dead, though whole frames are held behind what it died of; it may be full then.
func TestDead(t *testing.T) {
	for width, greatest := range most {
		ahead := framed(width, "some", "")
		for _, n := range []uint32{uint32(greatest) + 1, 1<<(8*width) - 1, 1 << (8*width - 1)} {
			r := open(t, width, ahead+head(width, n)+framed(width, "behind"))
			tells(t, r, "some", "")
			know := r.State()
			b, ok, err := r.Next()
			refused(t, "Next", err, len(ahead), api.ErrFrame)
			if b != nil || ok {
				t.Errorf("Next() = %q, %t beside an error", b, ok)
			}
			know.Dead = true
			shows(t, "dead", r, know)
			fallen(t, "dead", r, len(ahead), api.ErrFrame)
		}
		r := open(t, width, ahead+strings.Repeat("\xff", api.MaxHeld-len(ahead)))
		refused(t, "Feed", r.Feed([]byte("x")), 0, api.ErrLong)
		tells(t, r, "some", "")
		_, _, err := r.Next()
		refused(t, "Next", err, len(ahead), api.ErrFrame)
		fallen(t, "dead and full", r, len(ahead), api.ErrFrame)
		if held := r.State().Held; held != api.MaxHeld-len(ahead) {
			t.Errorf("a dead reader holds %d", held)
		}
	}
}

// P6.6: from 2 to 4, once; a reader of width 4 has nothing to widen. Counts stay as they are.
func TestWiden(t *testing.T) {
	for _, held := range []string{"", "\x00", "\x00\x00", "\x00\x00\x00\x02a", "\x00\x00\x00\x00\x00"} {
		r := open(t, 2, framed(2, "ab", ""), held)
		tells(t, r, "ab", "")
		done(t, "Widen", r.Widen())
		want := api.Framing{Width: 4, Held: len(held), Frames: 2, Bytes: 6}
		shows(t, "Widen", r, want)
		for range 3 {
			refused(t, "Widen twice", r.Widen(), 0, api.ErrTwice)
			shows(t, "Widen twice", r, want)
		}
	}
	r := open(t, 4, "\x00\x00\x00\x01")
	refused(t, "Widen", r.Widen(), 0, api.ErrTwice)
	shows(t, "Widen of width 4", r, api.Framing{Width: 4, Held: 4})
	feed(t, r, "x")
	tells(t, r, "x")
	refused(t, "Widen", r.Widen(), 0, api.ErrTwice)
}

// P6.6: bytes that are held when a reader is widened are read with width 4, and with its greatest body.
func TestWidenWhileBytesAreHeld(t *testing.T) {
	text := pattern(65536 + 3)
	all := framed(2, "x") + framed(4, "", "y", text)
	for n := 3; n <= len(all); n += 1 + n/20 {
		r := open(t, 2, all[:n])
		tells(t, r, "x")
		done(t, "Widen", r.Widen())
		feed(t, r, all[n:])
		tells(t, r, "", "y", text)
		waits(t, r)
		shows(t, "all", r, api.Framing{Width: 4, Frames: 4, Ticks: 1, Bytes: len(all)})
	}

	// What is a whole frame, or none at all, of width 2 is the beginning of a length of width 4.
	r := open(t, 2, "\x00\x01x")
	done(t, "Widen", r.Widen())
	waits(t, r)
	feed(t, r, "y")
	waits(t, r)
	feed(t, r, strings.Repeat("z", 1<<16+'x'<<8+'y'))
	tells(t, r, strings.Repeat("z", 1<<16+'x'<<8+'y'))

	r = open(t, 2, "\x00\x00\xff\xff")
	tells(t, r, "")
	done(t, "Widen", r.Widen())
	waits(t, r)
	feed(t, r, "\x00\x00")
	_, _, err := r.Next()
	refused(t, "Next", err, 2, api.ErrFrame)
	fallen(t, "dead", r, 2, api.ErrFrame)

	r = open(t, 2, "\xff\xff")
	_, _, err = r.Next()
	refused(t, "Next", err, 0, api.ErrFrame)
	fallen(t, "dead of width 2", r, 0, api.ErrFrame)
}

// Rule 4: what was fed may be changed, and so may what was told: no reader and no other body is.
func TestReadersKeepTheirOwn(t *testing.T) {
	for width := range most {
		b := []byte(framed(width, "one", "two", "", "three") + "rest")
		text := string(b)
		r := open(t, width)
		done(t, "Feed", r.Feed(b))
		if string(b) != text {
			t.Fatalf("Feed changes what it is given: %q", b)
		}
		for i := range b {
			b[i] = '!'
		}
		var bodies [][]byte
		for range 4 {
			body, ok, err := r.Next()
			if !ok || err != nil {
				t.Fatalf("Next() = %q, %t, %v", body, ok, err)
			}
			bodies = append(bodies, body)
			for i := range body {
				body[i] -= 'a' - 'A'
			}
			_ = append(body, "and much more than that"...)
		}
		feed(t, r, "more", "and more")
		if !equal(bodies, []string{"ONE", "TWO", "", "THREE"}) {
			t.Errorf("width %d: bodies %q", width, bodies)
		}
		if strings.Trim(string(b), "!") != "" {
			t.Errorf("width %d: a body that is changed changes what was fed: %q", width, b)
		}
	}
}

// Rule 4: a Feed writes into nothing that lies behind what it was given, nor does a later one.
func TestFeedLeavesRoomAlone(t *testing.T) {
	room := []byte("\x00\x02abBEHIND")
	r := open(t, 2)
	done(t, "Feed", r.Feed(room[:3]))
	feed(t, r, "x", framed(2, "more"))
	if string(room) != "\x00\x02abBEHIND" {
		t.Errorf("room behind what was fed is written: %q", room)
	}
	tells(t, r, "ax", "more")
}

// Rule 5: two readers know nothing of one another.
func TestTwoReaders(t *testing.T) {
	one, two := open(t, 2, "\x00\x02a"), open(t, 4, "\x00\x00\x00\x02x")
	feed(t, one, "b\xff\xff")
	feed(t, two, "y")
	tells(t, one, "ab")
	_, _, err := one.Next()
	refused(t, "Next", err, 4, api.ErrFrame)
	shows(t, "the other one", two, api.Framing{Width: 4, Held: 6})
	tells(t, two, "xy")
	three := open(t, 2)
	shows(t, "a third one", three, api.Framing{Width: 2})
	done(t, "Widen", three.Widen())
	refused(t, "Widen", two.Widen(), 0, api.ErrTwice)
	refused(t, "Widen", one.Widen(), 4, api.ErrFrame)
}
