package conn_test

import (
	"errors"
	"math"
	"slices"
	"strings"
	"testing"

	"heddle/api"
	"heddle/conn"
	"heddle/mix"
	"heddle/sample"
	"heddle/shake"
)

// P21.1: a table without streams, of whoever may wait for a handshake: any name, flags beyond those that are needed, any creation but 0, any cookie, any seed.
func TestNew(t *testing.T) {
	for _, me := range []api.Peer{somebody("m@h"), {Name: "a@b", Flags: api.FlagsNeeded, Creation: 1}, {Name: strings.Repeat("n", 62) + "@h", Flags: math.MaxUint64, Creation: math.MaxUint32}} {
		for _, c := range []string{cookie, "!", strings.Repeat("~", 255)} {
			for _, s := range []uint64{0, seed, math.MaxUint64} {
				x, err := conn.New(me, c, s)
				if err != nil || x == nil || look(x) != look((*conn.Table)(nil)) {
					t.Errorf("New(%v, %.10q, %d): %v, %v", me, c, s, x, err)
				}
			}
		}
	}
}

// P21.1: shake.Wait's refusals of me and of the cookie, each with its fault under, and which one comes first.
func TestNewRefuses(t *testing.T) {
	good := somebody("m@h")
	for _, name := range []string{"m@h", "", "m", "@h", "m@", "m@h@h", "m @h", strings.Repeat("n", 63) + "@h", "ß@h"} {
		for _, flags := range []uint64{good.Flags, api.FlagsNeeded, 0, api.FlagsNeeded &^ 0x4, api.FlagsNeeded &^ 0x100000000} {
			for _, creation := range []uint32{1, 0} {
				for _, c := range []string{cookie, "", "a b", strings.Repeat("x", 256), "\x7f"} {
					me := api.Peer{Name: name, Flags: flags, Creation: creation}
					_, under := shake.Wait(me, c, 0)
					x, err := conn.New(me, c, seed)
					var inner, outer *api.Fault
					if under == nil {
						done(t, "New", err)
						continue
					}
					if !errors.As(under, &inner) || !errors.As(err, &outer) || x != nil {
						t.Fatalf("New(%v, %.10q): %v, %v", me, c, x, err)
					}
					// What lies under is just shake's fault, with all that lies under that.
					if *outer != (api.Fault{Layer: "conn", Code: inner.Code, Under: outer.Under}) || outer.Under.Error() != under.Error() {
						t.Errorf("New(%v, %.10q): %v, want %v under it", me, c, err, under)
					}
				}
			}
		}
	}
}

// P21.1: the chains of some, written out.
func TestNewChains(t *testing.T) {
	me := somebody("m@h")
	change := func(to func(p *api.Peer)) api.Peer {
		p := me
		to(&p)
		return p
	}
	for _, c := range []struct {
		me     api.Peer
		cookie string
		chain  []api.Fault
	}{
		{change(func(p *api.Peer) { p.Name = "m" }), cookie, []api.Fault{{Layer: "shake", Code: api.ErrName}, {Layer: "atom", Code: api.ErrName}}},
		{change(func(p *api.Peer) { p.Flags = 0 }), cookie, []api.Fault{{Layer: "shake", Code: api.ErrPeer}}},
		{change(func(p *api.Peer) { p.Creation = 0 }), cookie, []api.Fault{{Layer: "shake", Code: api.ErrArg}}},
		{me, "ab c", []api.Fault{{Layer: "shake", Code: api.ErrCookie}, {Layer: "mix", At: 2, Code: api.ErrCookie}}},
		{me, "", []api.Fault{{Layer: "shake", Code: api.ErrCookie}, {Layer: "mix", Code: api.ErrCookie}}},
	} {
		x, err := conn.New(c.me, c.cookie, seed)
		if x != nil || !sample.IsFault(err, sample.Under("conn", 0, c.chain)...) || !errors.Is(err, c.chain[0].Code) {
			t.Errorf("New(%v, %q): %v, %v", c.me, c.cookie, x, err)
		}
	}
}

// told are the challenges of the sides that a table makes on so many streams: of strangers, of its own attempts, or of both in turn.
func told(t *testing.T, x *conn.Table, streams int, own func(stream int) bool) []uint32 {
	t.Helper()
	var all []uint32
	for n := range streams {
		name := "peer" + string(rune('a'+n)) + "@h"
		var haps []api.Hap
		var err error
		if own(n) {
			_, err = x.Connect(name, 0)
			done(t, "Connect", err)
			_, err = x.Opened(name, n, 0)
			done(t, "Opened", err)
			haps, err = x.Come(n, unpack("status:ok,challenge:"+name+":3"), 0)
		} else {
			done(t, "Accept", x.Accept(n, 0))
			haps, err = x.Come(n, unpack("name:"+name), 0)
		}
		done(t, "Come", err)
		last := haps[len(haps)-1].Bytes[2:]
		m, err := shake.Read(api.HChallenge, last)
		if err != nil {
			m, err = shake.Read(api.HReply, last)
		}
		done(t, "Read", err)
		all = append(all, m.Challenge)
	}
	return all
}

// The challenges of several streams are the generator's, in the order in which their sides are made, whoever began; New itself spends none.
func TestChallenges(t *testing.T) {
	for _, s := range []uint64{0, 1, seed, math.MaxUint64} {
		g := mix.New(s)
		var want []uint32
		for range 12 {
			n, _ := g.Next()
			want = append(want, n)
		}
		for what, own := range map[string]func(int) bool{"own": func(int) bool { return true }, "others": func(int) bool { return false }, "both": func(n int) bool { return n%3 == 0 }} {
			x, err := conn.New(somebody("m@h"), cookie, s)
			done(t, "New", err)
			if got := told(t, x, 12, own); !slices.Equal(got, want) {
				t.Errorf("seed %d, %s: %v, want %v", s, what, got, want)
			}
		}
	}
}

// A challenge is spent when its side is made, not when it is told; calls that are refused, and streams that are wanted alone, spend none.
func TestChallengesInOrder(t *testing.T) {
	played(t, `
		accept 5 0 ->
		accept 5 0 -> !6
		connect a@h 0 -> open a@h
		opened a@h 5 0 -> !6
		opened b@h 6 0 -> !420
		opened a@h 4 0 -> send 4 name:m@h
		accept 3 0 ->
		accept -1 0 -> !1
		closed 3 ->
		accept 3 0 ->
		come 3 name:z@h 0 -> send 3 status:ok; send 3 challenge:m@h:#4
		come 4 status:ok,challenge:a@h:9 0 -> send 4 reply:9:#2
		come 5 name:b@h 0 -> send 5 status:ok; send 5 challenge:m@h:#1
	`)
}
