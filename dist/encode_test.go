package dist_test

import (
	"slices"
	"strings"
	"testing"

	"heddle/api"
	"heddle/dist"
	"heddle/etf"
	"heddle/sample"
	"heddle/term"
)

// P9.2, P9.3: each kind's control message and its message as they stand in the chapter's table.
func TestControl(t *testing.T) {
	spawn := full(api.GSpawn)
	spawn.Args = nil
	for _, c := range []struct {
		s       api.Sig
		control string
		message string
	}{
		{full(api.GLink), "{1, <a@h.1.5.0>, <b@h.1.7.0>}", ""},
		{full(api.GSend), "{2, '', <b@h.1.7.0>}", "9"},
		{full(api.GExit), "{3, <a@h.1.5.0>, <b@h.1.7.0>, r}", ""},
		{full(api.GRegSend), "{6, <a@h.1.5.0>, '', x}", "9"},
		{full(api.GExit2), "{8, <a@h.1.5.0>, <b@h.1.7.0>, r}", ""},
		{full(api.GMonitor), "{19, <a@h.1.5.0>, <b@h.1.7.0>, #Ref<a@h.1.1.2.3>}", ""},
		{named(api.GMonitor), "{19, <a@h.1.5.0>, x, #Ref<a@h.1.1.2.3>}", ""},
		{full(api.GDemonitor), "{20, <a@h.1.5.0>, <b@h.1.7.0>, #Ref<a@h.1.1.2.3>}", ""},
		{named(api.GDemonitor), "{20, <a@h.1.5.0>, x, #Ref<a@h.1.1.2.3>}", ""},
		{full(api.GMonitorExit), "{21, <a@h.1.5.0>, <b@h.1.7.0>, #Ref<a@h.1.1.2.3>, r}", ""},
		{named(api.GMonitorExit), "{21, x, <b@h.1.7.0>, #Ref<a@h.1.1.2.3>, r}", ""},
		{full(api.GSpawn), "{29, #Ref<a@h.1.1.2.3>, <a@h.1.5.0>, <a@h.1.5.0>, {m, f, 2}, []}", "[[], 4]"},
		{spawn, "{29, #Ref<a@h.1.1.2.3>, <a@h.1.5.0>, <a@h.1.5.0>, {m, f, 0}, []}", "[]"},
		{full(api.GSpawnReply), "{31, #Ref<a@h.1.1.2.3>, <b@h.1.7.0>, 0, r}", ""},
		{full(api.GUnlink), "{35, 3, <a@h.1.5.0>, <b@h.1.7.0>}", ""},
		{full(api.GUnlinkAck), "{36, 3, <a@h.1.5.0>, <b@h.1.7.0>}", ""},
	} {
		want := read(t, c.control)
		got, behind, err := dist.Control(c.s)
		if err != nil || behind != (c.message != "") || !sample.Same(got, want) {
			t.Errorf("Control(%s) = %s, %v, %v, want %s", show(c.s), show(got), behind, err, c.control)
		}
		parts := []api.Term{want}
		if c.message != "" {
			parts = append(parts, read(t, c.message))
		}
		if b, err := dist.Encode(c.s); err != nil || !slices.Equal(b, body(t, parts...)) {
			t.Errorf("Encode(%s) = %s, %v", show(c.s), show(b), err)
		}
		tells(t, c.s)
	}
}

// read is the term of a text.
func read(t *testing.T, s string) api.Term {
	t.Helper()
	x, err := term.Read(s)
	if err != nil {
		t.Fatalf("Read(%q): %v", s, err)
	}
	return x
}

// P9.3: the chapter's examples, and others, byte by byte.
func TestEncodeBytes(t *testing.T) {
	from := []byte{88, 119, 3, 'a', '@', 'h', 0, 0, 0, 5, 0, 0, 0, 0, 0, 0, 0, 1}
	to := []byte{88, 119, 3, 'b', '@', 'h', 0, 0, 0, 7, 0, 0, 0, 0, 0, 0, 0, 1}
	by := []byte{90, 0, 3, 119, 3, 'a', '@', 'h', 0, 0, 0, 1, 0, 0, 0, 1, 0, 0, 0, 2, 0, 0, 0, 3}
	unlink := full(api.GUnlink)
	unlink.ID = api.MaxWire
	for _, c := range []struct {
		s     api.Sig
		bytes [][]byte
	}{
		{full(api.GLink), [][]byte{{112, 131, 104, 3, 97, 1}, from, to}},
		{full(api.GSend), [][]byte{{112, 131, 104, 3, 97, 2, 119, 0}, to, {131, 97, 9}}},
		{full(api.GRegSend), [][]byte{{112, 131, 104, 4, 97, 6}, from, {119, 0, 119, 1, 'x', 131, 97, 9}}},
		{full(api.GSpawn), [][]byte{{112, 131, 104, 6, 97, 29}, by, from, from, {104, 3, 119, 1, 'm', 119, 1, 'f', 97, 2, 106, 131, 108, 0, 0, 0, 2, 106, 97, 4, 106}}},
		{full(api.GSpawnReply), [][]byte{{112, 131, 104, 5, 97, 31}, by, to, {97, 0, 119, 1, 'r'}}},
		{unlink, [][]byte{{112, 131, 104, 4, 97, 35, 98, 127, 255, 255, 255}, from, to}},
	} {
		want := slices.Concat(c.bytes...)
		if b, err := dist.Encode(c.s); err != nil || !slices.Equal(b, want) {
			t.Errorf("Encode(%s) = %s, %v, want %s", show(c.s), show(b), err, show(want))
		}
		if s, err := dist.Decode(want); err != nil || !dist.Same(s, c.s) {
			t.Errorf("Decode(%s) = %s, %v", show(want), show(s), err)
		}
	}
}

// P9.2: a Reason with which the tuple is just a term, and one with which it is none.
func TestControlLimits(t *testing.T) {
	for k, most := range map[api.SigKind]int{api.GExit: 4092, api.GExit2: 4092, api.GMonitorExit: 4091} {
		for _, c := range []struct {
			reason api.Term
			right  bool
		}{
			{tuple(ones(most - 1)...), true}, {tuple(ones(most)...), false}, {tuple(ones(4095)...), false},
			{list(ones(most - 1)...), true}, {list(ones(most)...), false},
			{chain(254, num(1)), true}, {chain(255, num(1)), false},
		} {
			s := full(k)
			s.Reason = c.reason
			checks(t, "a great Reason", s, true)
			control, behind, err := dist.Control(s)
			if c.right != (err == nil) || !c.right && !refused(err, fault(1, api.ErrSig)) || behind || c.right == sample.IsZero(control) {
				t.Errorf("Control of kind %d: %v, %v, want %v", k, behind, err, c.right)
			}
			b, err := dist.Encode(s)
			if c.right != (err == nil) || !c.right && (!refused(err, fault(1, api.ErrSig)) || len(b) > 0) {
				t.Errorf("Encode of kind %d: %v, want %v", k, err, c.right)
			}
			// Check's error is ahead.
			s.To = num(1)
			checks(t, "a great Reason, a wrong To", s, false)
		}
		// An int that can't be encoded is behind a tuple that is no term.
		s := full(k)
		s.Reason = tuple(append(ones(4094), num(1<<40))...)
		if _, err := dist.Encode(s); !refused(err, fault(1, api.ErrSig)) {
			t.Errorf("Encode of kind %d: %v", k, err)
		}
	}
	// What is not named may be as great as it likes.
	for _, k := range []api.SigKind{api.GLink, api.GSend, api.GSpawn, api.GSpawnReply} {
		s := full(k)
		s.Msg = tuple(ones(4095)...)
		checks(t, "a great Msg", s, true)
		if _, _, err := dist.Control(s); err != nil {
			t.Errorf("Control of kind %d: %v", k, err)
		}
	}
}

// P9.3: what can't be encoded, where it is told, and what lies under it.
func TestEncodeRefused(t *testing.T) {
	refuses := func(what string, s api.Sig, faults ...api.Fault) {
		t.Helper()
		checks(t, what, s, true)
		if b, err := dist.Encode(s); len(b) > 0 || !refused(err, faults) {
			t.Errorf("%s: %s, %v, want %v", what, show(b), err, faults)
		}
	}
	for _, n := range []int64{api.MaxWire + 1, api.MinWire - 1, api.MaxInt, api.MinInt} {
		s := full(api.GSend)
		s.Msg, s.Reason = num(n), num(n)
		refuses("a Msg", s, api.Fault{Layer: "dist", At: 1, Code: api.ErrWire}, api.Fault{Layer: "etf", At: 0, Code: api.ErrWire})
		s.Kind, s.Msg = api.GRegSend, tuple(num(1), num(n))
		refuses("a Msg to a name", s, api.Fault{Layer: "dist", At: 1, Code: api.ErrWire}, api.Fault{Layer: "etf", At: 2, Code: api.ErrWire})
		s.Kind, s.Args = api.GSpawn, []api.Term{num(1), num(n), num(n)}
		refuses("an Arg", s, api.Fault{Layer: "dist", At: 1, Code: api.ErrWire}, api.Fault{Layer: "etf", At: 2, Code: api.ErrWire})
		// Msg and Args are wrong as well, but these kinds do not name them.
		s.Kind = api.GExit
		refuses("a Reason", s, api.Fault{Layer: "dist", At: 0, Code: api.ErrWire}, api.Fault{Layer: "etf", At: 4, Code: api.ErrWire})
		s.Kind = api.GExit2
		refuses("a Reason of GExit2", s, api.Fault{Layer: "dist", At: 0, Code: api.ErrWire}, api.Fault{Layer: "etf", At: 4, Code: api.ErrWire})
		s.Kind = api.GMonitorExit
		refuses("a Reason of GMonitorExit", s, api.Fault{Layer: "dist", At: 0, Code: api.ErrWire}, api.Fault{Layer: "etf", At: 5, Code: api.ErrWire})
	}
	s := full(api.GSpawn)
	s.Args = []api.Term{tuple(ones(2046)...), tuple(ones(2046)...)}
	if _, err := dist.Encode(s); err != nil {
		t.Errorf("Args of 4096 parts in all: %v", err)
	}
	s.Args[1] = tuple(ones(2047)...)
	many := func(layer string, at int) api.Fault { return api.Fault{Layer: layer, At: at, Code: api.ErrMany} }
	refuses("Args of 4097 parts in all", s, many("dist", 1), many("etf", 4096), many("term", 4096))
	s.Args = []api.Term{num(1), chain(254, num(1))}
	if _, err := dist.Encode(s); err != nil {
		t.Errorf("a deep Arg: %v", err)
	}
	s.Args[1] = chain(255, num(1))
	deep := func(layer string, at int) api.Fault { return api.Fault{Layer: layer, At: at, Code: api.ErrDeep} }
	refuses("too deep an Arg", s, deep("dist", 1), deep("etf", 257), deep("term", 257))
}

// filled is a list of just that many bytes on the wire, the version ahead of it not counted.
func filled(length int) api.Term {
	left := length - 5 - 1
	var args []api.Term
	for ; left > 257+2; left -= 257 {
		args = append(args, symbol(strings.Repeat("x", 255)))
	}
	if left > 257 {
		args, left = append(args, symbol("")), left-2
	}
	return list(append(args, symbol(strings.Repeat("y", left-2)), null())...)
}

// P9.3: a control message and a message of MaxTermBytes bytes, and of one more.
func TestEncodeLong(t *testing.T) {
	long := func(layer string, at int) api.Fault { return api.Fault{Layer: layer, At: at, Code: api.ErrLong} }
	for _, length := range []int{65535, 65536, 65537} {
		s := full(api.GSend)
		s.Msg = filled(length - 1)
		b, err := dist.Encode(s)
		if length <= 65536 && (err != nil || len(b) != 26+length) || length > 65536 && !refused(err, []api.Fault{long("dist", 1), long("etf", 0)}) {
			t.Errorf("a message of %d bytes: %d, %v", length, len(b), err)
		}
		tells(t, s)
		for _, k := range []api.SigKind{api.GExit, api.GExit2, api.GMonitorExit} {
			s := full(k)
			s.Reason = num(1)
			small, _, _ := dist.Control(s)
			n, _ := etf.Length(small)
			s.Reason = filled(length - (n - 2))
			b, err := dist.Encode(s)
			if length <= 65536 && (err != nil || len(b) != 1+length) || length > 65536 && !refused(err, []api.Fault{long("dist", 0), long("etf", 0)}) {
				t.Errorf("a control message of kind %d of %d bytes: %d, %v", k, length, len(b), err)
			}
			tells(t, s)
		}
	}
}
