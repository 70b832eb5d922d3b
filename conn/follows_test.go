package conn_test

import (
	"math/rand"
	"strconv"
	"strings"
	"testing"

	"heddle/api"
	"heddle/conn"
	"heddle/mix"
)

// pairs are all ways between names.
func pairs(all ...string) []way {
	var ways []way
	for _, a := range all {
		for _, b := range all {
			if a != b {
				ways = append(ways, way{a, b})
			}
		}
	}
	return ways
}

// crowd are two names, or three.
func crowd(seed int64) []string {
	all := []string{"a@h", "b@h", "z@h"}
	if seed%3 == 0 {
		return all
	}
	return all[:2]
}

// alike are tables with one cookie.
func alike(all ...string) map[string]string {
	cookies := map[string]string{}
	for _, name := range all {
		cookies[name] = cookie
	}
	return cookies
}

// P21.9: whoever wished the other one is up with it in the end, and all bodies have come, once, in order, whoever begins, in whatever chunks and order bytes come; nobody else is up.
func TestTwoThatMay(t *testing.T) {
	both, simultaneous := 0, 0
	for seed := range int64(600) {
		r := rand.New(rand.NewSource(seed))
		who := crowd(seed)
		w := newWorld(t, r.Intn, alike(who...))
		ways := pairs(who...)
		if seed%5 == 0 {
			ways = ways[:1+r.Intn(len(ways))]
		}
		acts, bodies := 30+r.Intn(300), 0
		for range acts {
			if r.Intn(6) == 0 {
				body := ""
				if r.Intn(5) > 0 {
					bodies++
					body = strings.Repeat(strconv.Itoa(bodies)+".", 1+r.Intn(3)*r.Intn(300))
				}
				w.wish(t, ways[r.Intn(len(ways))], body)
			}
			w.act(t)
		}
		w.settle(t)
		for _, y := range pairs(who...) {
			wished := w.wished[y] > 0 || w.wished[y.back()] > 0
			if w.isUp(y) != wished {
				t.Fatalf("seed %d: %v is up: %t", seed, y, !wished)
			}
			if got, want := w.whole(y), strings.Join(w.said[y], " "); got != want {
				t.Fatalf("seed %d: %v: %q has come of %q", seed, y, got, want)
			}
			if w.wished[y] > 0 && w.wished[y.back()] > 0 {
				both++
			}
		}
		simultaneous += w.met[api.YClose]
		if w.met[api.YDown]+w.met[api.YFail] > 0 {
			t.Fatalf("seed %d: somebody was lost", seed)
		}
	}
	if both < 300 || simultaneous < 100 {
		t.Errorf("both try in %d cases, %d streams are closed", both, simultaneous)
	}
}

// P21.10: with breaks, with time and with Break between, what comes in an epoch is a beginning of what was sent in it, what waited ahead (that is held body by body); in the end, with neither of them, whoever is wished again is up, and what is sent then comes.
func TestOrderWithBreaks(t *testing.T) {
	met := map[api.HapKind]int{}
	lost := 0
	for seed := range int64(300) {
		r := rand.New(rand.NewSource(seed))
		who := crowd(seed)
		w := newWorld(t, r.Intn, alike(who...))
		ways := pairs(who...)
		for i := range 600 {
			if r.Intn(5) == 0 {
				w.wish(t, ways[r.Intn(len(ways))], "body"+strconv.Itoa(i))
			}
			w.act(t)
			w.disturb(t, r, who)
		}
		w.settle(t)
		for i, y := range ways {
			lost += len(w.said[y]) - len(strings.Fields(w.whole(y)))
			if !w.isUp(y) || !w.isUp(y.back()) {
				// Who does not know yet that the other one is gone breaks it off.
				w.breakOff(t, y)
				w.breakOff(t, y.back())
				w.settle(t)
			}
			w.wish(t, y, "last"+strconv.Itoa(i))
			w.settle(t)
			if !w.isUp(y) || !w.isUp(y.back()) || !strings.HasSuffix(w.whole(y), "last"+strconv.Itoa(i)) {
				t.Fatalf("seed %d: %v: %t, %t, %q", seed, y, w.isUp(y), w.isUp(y.back()), w.whole(y))
			}
		}
		for kind, n := range w.met {
			met[kind] += n
		}
	}
	for kind := api.YOpen; kind <= api.YFail; kind++ {
		if met[kind] < 500 {
			t.Errorf("kinds: %v", met)
		}
	}
	if lost < 1000 {
		t.Errorf("%d bodies were lost", lost)
	}
}

// disturb is, now and then, a break, a time, or an end.
func (w *world) disturb(t testing.TB, r *rand.Rand, who []string) {
	t.Helper()
	switch r.Intn(150) {
	case 0, 1:
		if len(w.pipes) > 0 {
			_ = w.pipes[len(w.pipes)-1-r.Intn(min(len(w.pipes), 3))].s.Break()
		}
	case 2:
		ways := pairs(who...)
		w.breakOff(t, ways[r.Intn(len(ways))])
	case 3, 4, 5:
		w.now += r.Intn(100)
		for _, name := range who {
			haps, err := w.tables[name].Tick(w.now)
			done(t, "Tick", err)
			w.happened(t, name, -1, haps)
		}
	}
}

func (w *world) breakOff(t testing.TB, y way) {
	t.Helper()
	haps, err := w.tables[y.from].Break(y.to)
	done(t, "Break", err)
	w.happened(t, y.from, -1, haps)
}

// With unlike cookies nobody is ever up, whoever begins; of three, two with one cookie are.
func TestUnlikeCookies(t *testing.T) {
	for seed := range int64(200) {
		r := rand.New(rand.NewSource(seed))
		cookies := map[string]string{"a@h": cookie, "b@h": []string{"Secret", "secre", "secret!", "tercets"}[seed%4]}
		who := crowd(seed)
		if len(who) > 2 {
			cookies["z@h"] = cookies[who[r.Intn(2)]]
		}
		w := newWorld(t, r.Intn, cookies)
		ways := pairs(who...)
		held := func() {
			t.Helper()
			for _, y := range ways {
				if cookies[y.from] != cookies[y.to] && (w.isUp(y) || len(w.come[y]) > 0) {
					t.Fatalf("seed %d: %v", seed, y)
				}
			}
		}
		for range 200 {
			if r.Intn(6) == 0 {
				w.wish(t, ways[r.Intn(len(ways))], []string{"", "body"}[r.Intn(2)])
			}
			w.act(t)
			held()
		}
		for _, y := range ways {
			w.wish(t, y, "body")
		}
		w.settle(t)
		held()
		for _, y := range ways {
			if alike := cookies[y.from] == cookies[y.to]; w.isUp(y) != alike || alike && w.whole(y) != strings.Join(w.said[y], " ") {
				t.Errorf("seed %d: %v is up: %t", seed, y, w.isUp(y))
			}
		}
	}
}

// P21.11: any bytes on a stream whose handshake is not done: of chance, of a right handshake with other challenges, changed in a byte; what the table itself has told, sent back to it.
func TestStrangers(t *testing.T) {
	r := rand.New(rand.NewSource(1))
	cuts := func() []byte {
		b := make([]byte, r.Intn(20))
		r.Read(b)
		return b
	}
	right := []string{"name:b@h,reply:#1:3,body:x", "status:ok,challenge:b@h:3,ack:#1,body:x"}
	for range 3000 {
		b := make([]byte, r.Intn(100))
		r.Read(b)
		if len(b) > 2 && r.Intn(2) == 0 {
			copy(b, []byte{0, byte(r.Intn(8))})
		}
		for _, way := range []string{"accept 1 0", toTrying, toTaken, toWished} {
			stranger(t, played(t, way), b, cuts())
		}
		// All that is right but for a bit of the digest, or of what stands ahead of it; of what plays no part, as flags that are not needed, there is none.
		for i, way := range []string{"accept 1 0", toTrying} {
			b := unpack(right[i])
			from := len(b) - 5 - []int{16, 16}[i]
			b[from+r.Intn(16)] ^= 1 << r.Intn(8)
			stranger(t, played(t, way), b, cuts())
		}
	}
	for _, text := range []string{"name:b@h,reply:#2:3,body:x", "name:b@h,reply:3:#1,body:x", "name:b@h,ack:#1,body:x", "reply:#1:3,body:x", "ack:#1,body:x", "tick,body:x", "name:b@h,name:b@h,reply:#1:3", "name:m@h,reply:#1:3,body:x"} {
		stranger(t, played(t, "accept 1 0"), unpack(text), cuts())
	}
	for _, text := range []string{"status:ok,challenge:b@h:3,ack:3,body:x", "status:ok,ack:#1,body:x", "challenge:b@h:3,ack:#1,body:x", "status:alive,challenge:b@h:3,ack:#1", "status:ok,challenge:a@h:3,ack:#1,body:x", "ack:#1,tick"} {
		stranger(t, played(t, toTrying), unpack(text), cuts())
	}
}

// A conversation of two others that was overheard opens nothing: challenges are others then.
func TestOverheard(t *testing.T) {
	a, b := played(t, "accept 1 0"), open(t)
	other, err := conn.New(somebody("b@h"), cookie, seed+1)
	done(t, "New", err)
	_, err = other.Connect("m@h", 0)
	done(t, "Connect", err)
	to, err := other.Opened("m@h", 1, 0)
	done(t, "Opened", err)
	var told [2][]byte
	for i := range 6 {
		side := []*conn.Table{a, other}[i%2]
		var next []api.Hap
		for _, h := range to {
			if h.Kind == api.YSend {
				told[i%2] = append(told[i%2], h.Bytes...)
				haps, err := side.Come(1, h.Bytes, 0)
				done(t, "Come", err)
				next = append(next, haps...)
			}
		}
		to = next
	}
	if len(a.Up()) != 1 || len(other.Up()) != 1 {
		t.Fatalf("%v, %v", a.Up(), other.Up())
	}
	// Another time the table has another challenge for it.
	play(t, b, "accept 9 0 ->\n accept 1 0 ->\n connect b@h 0 -> open b@h\n opened b@h 2 0 -> send 2 name:m@h")
	stranger(t, b, told[0], []byte{200})
	haps, err := b.Come(2, told[1], 0)
	if err != nil || len(b.Up()) != 0 {
		t.Errorf("%s, %v", tell(haps), err)
	}
}

// With one digest of two unlike cookies two would be up: the cookies of these tests have none.
func TestCookiesOfTestsAreUnlike(t *testing.T) {
	for _, c := range []string{"Secret", "secre", "secret!", "tercets"} {
		for n := range uint32(1000) {
			if d, err := mix.Digest(c, n); err != nil || string(d) == string(digestOf(n)) {
				t.Errorf("%q, %d: %v", c, n, err)
			}
		}
	}
}
