package conn

import (
	"strconv"
	"testing"

	"heddle/api"
	"heddle/frame"
	"heddle/mix"
	"heddle/shake"
)

// hello is the name of a stranger, in a frame.
func hello(t *testing.T, name string) []byte {
	t.Helper()
	m, err := shake.Write(api.Shake{Kind: api.HName, Flags: api.FlagsNeeded, Creation: 1, Name: name})
	if err != nil {
		t.Fatal(err)
	}
	return framed(narrow, m)
}

// Whoever comes and goes without having been up leaves nothing behind: strangers may do that as often as they like.
func TestNothingIsLeft(t *testing.T) {
	x, err := New(api.Peer{Name: "m@h", Flags: api.FlagsNeeded, Creation: 1}, "secret", 5)
	if err != nil {
		t.Fatal(err)
	}
	for i := range 300 {
		name := "n" + strconv.Itoa(i) + "@h"
		x.Accept(i, 0)
		x.Come(i, hello(t, name), 0)
		x.Send("w"+name, []byte("x"), 0)
		x.Opened("w"+name, 1000+i, 0)
		if len(x.nodes) != 2 || len(x.streams) != 2 {
			t.Fatalf("%d nodes, %d streams", len(x.nodes), len(x.streams))
		}
		switch i % 4 {
		case 0:
			x.Closed(i)
			x.Closed(1000 + i)
		case 1:
			x.Break(name)
			x.Break("w" + name)
		case 2:
			x.Come(i, []byte{255, 255}, 0)
			x.Come(1000+i, framed(narrow, []byte("snok")), 0)
			x.Break("w" + name)
		case 3:
			x.Tick(240)
		}
		x.Accept(5000, 0)
		x.Come(5000, hello(t, "m@h"), 0)
		x.Conn("c" + name)
		x.Break("b" + name)
		x.Refused("r" + name)
		x.Send("s"+name, nil, 0)
		if len(x.nodes)+len(x.streams)+len(x.epochs) != 0 {
			t.Fatalf("%d nodes, %d streams, %d epochs are left", len(x.nodes), len(x.streams), len(x.epochs))
		}
	}
}

// Of who is up neither the side of the handshake is kept nor what has waited; of who was up no more than how often.
func TestWhatIsKeptOfWhoIsUp(t *testing.T) {
	x, err := New(api.Peer{Name: "m@h", Flags: api.FlagsNeeded, Creation: 1}, "secret", 5)
	if err != nil {
		t.Fatal(err)
	}
	challenge, _ := mix.New(5).Next()
	digest, _ := mix.Digest("secret", challenge)
	reply, _ := shake.Write(api.Shake{Kind: api.HReply, Challenge: 3, Digest: digest})
	x.Accept(1, 0)
	x.Come(1, hello(t, "b@h"), 0)
	x.Send("b@h", []byte("x"), 0)
	x.Come(1, framed(narrow, reply), 0)
	s, n := x.streams[1], x.nodes["b@h"]
	if n.state != api.ConnUp || s.side != nil || n.waits != nil || s.reader.State() != (api.Framing{Width: 4, Frames: 2, Bytes: len(hello(t, "b@h")) + len(reply) + 2}) {
		t.Errorf("%+v, %+v, %+v", s, n, s.reader.State())
	}
	x.Closed(1)
	if len(x.nodes)+len(x.streams) != 0 || len(x.epochs) != 1 || x.epochs["b@h"] != 1 {
		t.Errorf("%v, %v, %v", x.nodes, x.streams, x.epochs)
	}
}

// Whatever is framed may be: Send refuses longer bodies, and the handshake's messages have far less bytes than a frame may have.
func TestFramed(t *testing.T) {
	for _, n := range []int{0, 1, api.MaxShake} {
		if b, err := frame.Frame(narrow, make([]byte, n)); err != nil || string(b) != string(framed(narrow, make([]byte, n))) {
			t.Errorf("%d bytes: %v", n, err)
		}
	}
	if b := framed(wide, make([]byte, api.MaxFrame)); len(b) != api.MaxFrame+4 {
		t.Errorf("%d bytes", len(b))
	}
}
