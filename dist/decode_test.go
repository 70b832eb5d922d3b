package dist_test

import (
	"encoding/binary"
	"math"
	"slices"
	"testing"

	"heddle/api"
	"heddle/dist"
	"heddle/etf"
)

// takes: Decode tells that signal of bytes, with all fields, and what all is said of decoding holds.
func takes(t *testing.T, what string, b []byte, want api.Sig) {
	t.Helper()
	if s, err := dist.Decode(b); err != nil || !alike(s, want) {
		t.Errorf("%s: Decode(%s) = %s, %v, want %s", what, show(b), show(s), err, show(want))
	}
	decodes(t, b)
}

// rejects: Decode tells just those faults of bytes, and nothing beside them.
func rejects(t *testing.T, what string, b []byte, faults ...api.Fault) {
	t.Helper()
	if s, err := dist.Decode(b); !alike(s, api.Sig{}) || !refused(err, faults) {
		t.Errorf("%s: Decode(%s) = %s, %v, want %v", what, show(b), show(s), err, faults)
	}
	decodes(t, b)
}

func own(at int, code api.Errno) api.Fault { return api.Fault{Layer: "dist", At: at, Code: code} }

func below(at int, code api.Errno) api.Fault { return api.Fault{Layer: "etf", At: at, Code: code} }

// signals has each kind with all fields and with its own alone, monitors of pids and of names, spawns with and without Args, replies with pids.
func signals() []api.Sig {
	var all []api.Sig
	for _, k := range kinds {
		all = append(all, bare(k), named(k))
	}
	spawn, reply, exit := bare(api.GSpawn), bare(api.GSpawnReply), bare(api.GExit)
	spawn.Args = nil
	reply.Reason = pid("b@h", 1, 8, 0)
	exit.Reason = tuple(symbol("a"), list(num(1), num(-1), list(null(), num(5)), null()), tuple(), ref("a@h", 1, 1, 2, 3))
	return append(all, spawn, reply, exit)
}

// encode is a signal's body.
func encode(t *testing.T, s api.Sig) []byte {
	t.Helper()
	b, err := dist.Encode(s)
	if err != nil {
		t.Fatalf("Encode(%s): %v", show(s), err)
	}
	return b
}

// controlEnd is where a body's control message ends.
func controlEnd(t *testing.T, b []byte) int {
	t.Helper()
	_, n, err := etf.Decode(b[1:], nil)
	if err != nil {
		t.Fatalf("Decode(%s): %v", show(b), err)
	}
	return 1 + n
}

// P9.4, P9.6: every kind; the fields that it names, all others zero.
func TestDecode(t *testing.T) {
	for _, s := range signals() {
		takes(t, "its own fields", encode(t, s), s)
	}
	for _, k := range kinds {
		takes(t, "all fields", encode(t, full(k)), bare(k))
	}
	for _, k := range []api.SigKind{api.GMonitor, api.GDemonitor, api.GMonitorExit} {
		s := full(k)
		s.Name, s.Msg = "\xff", api.Term{Kind: 9}
		takes(t, "a pid beside what is no name", encode(t, s), bare(k))
		s = named(k)
		if k == api.GMonitorExit {
			s.From = pid("a", 1)
		} else {
			s.To = num(3)
		}
		takes(t, "a name beside what is no pid", encode(t, s), named(k))
	}
}

// P9.4: no byte, and every first byte.
func TestDecodeFirstByte(t *testing.T) {
	rejects(t, "no byte", nil, own(0, api.ErrPass))
	rejects(t, "no byte", []byte{}, own(0, api.ErrPass))
	good := encode(t, full(api.GLink))
	for c := range 256 {
		b := slices.Clone(good)
		b[0] = byte(c)
		if c == 112 {
			takes(t, "112", b, bare(api.GLink))
			continue
		}
		rejects(t, "another first byte", b, own(0, api.ErrPass))
		rejects(t, "another byte alone", b[:1], own(0, api.ErrPass))
	}
	rejects(t, "112 alone", []byte{112}, own(1, api.ErrVersion), below(0, api.ErrVersion))
	rejects(t, "112 twice", append([]byte{112}, good...), own(1, api.ErrVersion), below(0, api.ErrVersion))
	rejects(t, "no first byte", good[1:], own(0, api.ErrPass))
}

// P9.4: MaxFrame bytes and one more: a spawn whose options are many and whose Args are great.
func TestDecodeLong(t *testing.T) {
	args := filled(65535)
	spawn := bare(api.GSpawn)
	spawn.Args = args.Args[:len(args.Args)-1]
	small, _, _ := dist.Control(spawn)
	n, _ := etf.Length(small)
	frame := func(control int) []byte {
		x := small
		x.Args = append(slices.Clone(small.Args[:5]), filled(control-(n-1)))
		return body(t, x, args)
	}
	for _, control := range []int{65534, 65535} {
		b := frame(control)
		if len(b) != control+65537 {
			t.Fatalf("%d bytes", len(b))
		}
		takes(t, "a great body", b, spawn)
		rejects(t, "cut", b[:len(b)-1], own(1+control, api.ErrCut), below(65535, api.ErrCut))
	}
	b := frame(65535)
	b[0] = 111
	rejects(t, "MaxFrame bytes of another kind", b, own(0, api.ErrPass))
	rejects(t, "more, of another kind", append(b, 0), own(0, api.ErrLong))
	rejects(t, "MaxFrame bytes and one more", frame(65536), own(0, api.ErrLong))
	good := encode(t, full(api.GSend))
	rejects(t, "MaxFrame bytes", append(slices.Clone(good), make([]byte, 131072-len(good))...), own(len(good), api.ErrExtra))
	rejects(t, "one more", append(slices.Clone(good), make([]byte, 131073-len(good))...), own(0, api.ErrLong))
	rejects(t, "far more", make([]byte, 1<<20), own(0, api.ErrLong))
}

// P9.4: each body cut at every length, and with bytes behind it.
func TestDecodeCut(t *testing.T) {
	for _, s := range signals() {
		b := encode(t, s)
		end := controlEnd(t, b)
		rejects(t, "cut to nothing", b[:0], own(0, api.ErrPass))
		for n := 1; n < len(b); n++ {
			at := 1
			if n >= end {
				at = end
			}
			_, _, err := etf.Decode(b[at:n], nil)
			rejects(t, "cut", b[:n], above(at, err)...)
		}
		for _, extra := range [][]byte{{0}, {131}, {112}, {131, 106}, b} {
			rejects(t, "more", append(slices.Clone(b), extra...), own(len(b), api.ErrExtra))
		}
	}
	rejects(t, "a send without a message", body(t, read(t, "{2, '', <b@h.1.7.0>}")), own(26, api.ErrVersion), below(0, api.ErrVersion))
	rejects(t, "a link with a message", body(t, read(t, "{1, <a@h.1.5.0>, <b@h.1.7.0>}"), num(1)), own(42, api.ErrExtra))
}

// P9.4: what is no control message at all.
func TestDecodeNoControl(t *testing.T) {
	for _, text := range []string{
		"1", "a", "''", "<a@h.1.5.0>", "#Ref<a@h.1.1.2.3>", "{}", "[]", "[1]", "{1}", "{2}", "{29}", "{a}", "{'1', <a@h.1.5.0>, <b@h.1.7.0>}", "{{1}, <a@h.1.5.0>, <b@h.1.7.0>}", "[1, <a@h.1.5.0>, <b@h.1.7.0>]", "{[], <a@h.1.5.0>, <b@h.1.7.0>}", "[1, <a@h.1.5.0> | <b@h.1.7.0>]", "[2, '' | <b@h.1.7.0>]",
		"{1, a, b}", "{1, <a@h.1.5.0>, b}", "{1, a, <b@h.1.7.0>}", "{1, <a@h.1.5.0>, #Ref<b@h.1.1.2.3>}", "{1, <a@h.1.5.0>}", "{1, <a@h.1.5.0>, <b@h.1.7.0>, <b@h.1.7.0>}",
		"{2, x, <b@h.1.7.0>}", "{2, [], <b@h.1.7.0>}", "{2, 0, <b@h.1.7.0>}", "{2, <b@h.1.7.0>, ''}", "{2, '', x}", "{2, '', <b@h.1.7.0>, 9}", "{2, <b@h.1.7.0>}",
		"{6, <a@h.1.5.0>, x, x}", "{6, <a@h.1.5.0>, '', 1}", "{6, <a@h.1.5.0>, '', <b@h.1.7.0>}", "{6, '', '', x}", "{6, <a@h.1.5.0>, x}",
		"{19, <a@h.1.5.0>, 1, #Ref<a@h.1.1.2.3>}", "{19, <a@h.1.5.0>, {x, b@h}, #Ref<a@h.1.1.2.3>}", "{19, x, <b@h.1.7.0>, #Ref<a@h.1.1.2.3>}", "{19, <a@h.1.5.0>, x, <a@h.1.5.0>}", "{20, <a@h.1.5.0>, [], #Ref<a@h.1.1.2.3>}", "{20, <a@h.1.5.0>, x}",
		"{21, 1, <b@h.1.7.0>, #Ref<a@h.1.1.2.3>, r}", "{21, x, x, #Ref<a@h.1.1.2.3>, r}", "{21, x, <b@h.1.7.0>, r, r}", "{21, x, <b@h.1.7.0>, #Ref<a@h.1.1.2.3>}",
		"{31, #Ref<a@h.1.1.2.3>, <b@h.1.7.0>, a, r}", "{31, #Ref<a@h.1.1.2.3>, <b@h.1.7.0>, 0, 1}", "{31, #Ref<a@h.1.1.2.3>, <b@h.1.7.0>, 0, {r}}", "{31, #Ref<a@h.1.1.2.3>, <b@h.1.7.0>, 0, []}", "{31, #Ref<a@h.1.1.2.3>, <b@h.1.7.0>, 0, #Ref<a@h.1.1.2.3>}", "{31, #Ref<a@h.1.1.2.3>, x, 0, r}", "{31, <b@h.1.7.0>, <b@h.1.7.0>, 0, r}", "{31, #Ref<a@h.1.1.2.3>, <b@h.1.7.0>, [], r}",
		"{35, 0, <a@h.1.5.0>, <b@h.1.7.0>}", "{35, -1, <a@h.1.5.0>, <b@h.1.7.0>}", "{35, -2147483648, <a@h.1.5.0>, <b@h.1.7.0>}", "{36, 0, <a@h.1.5.0>, <b@h.1.7.0>}", "{36, a, <a@h.1.5.0>, <b@h.1.7.0>}", "{35, <a@h.1.5.0>, <b@h.1.7.0>}", "{36, <a@h.1.5.0>, <b@h.1.7.0>, 1}",
	} {
		for _, behind := range [][]api.Term{nil, {num(9)}, {null()}} {
			rejects(t, text, body(t, append([]api.Term{read(t, text)}, behind...)...), own(1, api.ErrControl))
		}
	}
	for _, k := range noKinds {
		if k < math.MinInt32 || k > math.MaxInt32 {
			continue
		}
		for _, like := range kinds {
			x := tell(bare(like)).control
			x.Args[0] = num(int64(k))
			rejects(t, "no kind", body(t, x), own(1, api.ErrControl))
		}
	}
}

// P9.4: every control message with one element less, one more, and each element of every kind.
func TestDecodeElements(t *testing.T) {
	for _, s := range signals() {
		x := tell(s)
		frame := func(args []api.Term) []byte {
			if x.behind {
				return body(t, tuple(args...), x.message)
			}
			return body(t, tuple(args...))
		}
		args := x.control.Args
		for i := range args {
			rejects(t, "one less", frame(slices.Delete(slices.Clone(args), i, i+1)), own(1, api.ErrControl))
			for _, y := range terms() {
				rejects(t, "one more", frame(slices.Insert(slices.Clone(args), i+1, y)), own(1, api.ErrControl))
				other := slices.Clone(args)
				other[i] = y
				decodes(t, frame(other))
				if i > 0 && !mayStand(s.Kind, i, y) {
					rejects(t, "another kind", frame(other), own(1, api.ErrControl))
				}
			}
		}
	}
}

// mayStand tells which terms may stand at a control message's places, told by the places alone.
func mayStand(k api.SigKind, at int, t api.Term) bool {
	places := map[api.SigKind]string{1: "pp", 2: "ep", 3: "pp*", 6: "pea", 8: "pp*", 19: "pwr", 20: "pwr", 21: "wpr*", 29: "rp*cl", 31: "rpiw", 35: "npp", 36: "npp"}
	switch places[k][at-1] {
	case 'p':
		return t.Kind == api.KPid
	case 'r':
		return t.Kind == api.KRef
	case 'a':
		return t.Kind == api.KAtom
	case 'e':
		return t.Kind == api.KAtom && t.Text == ""
	case 'w':
		return t.Kind == api.KAtom || t.Kind == api.KPid
	case 'i':
		return t.Kind == api.KInt
	case 'n':
		return t.Kind == api.KInt && t.Int > 0
	case 'l':
		return t.Kind == api.KNil || t.Kind == api.KList && t.Args[len(t.Args)-1].Kind == api.KNil
	case 'c':
		return t.Kind == api.KTuple && len(t.Args) == 3
	}
	return true
}

// spawning is the control message of a spawn, with that leader, call and options.
func spawning(leader, call, options api.Term) api.Term {
	return tuple(num(29), ref("a@h", 1, 1, 2, 3), pid("a@h", 1, 5, 0), leader, call, options)
}

func call(arity int64) api.Term { return tuple(symbol("m"), symbol("f"), num(arity)) }

// proper is the list of so many ones.
func proper(n int) api.Term {
	if n == 0 {
		return null()
	}
	return list(append(ones(n), null())...)
}

// P9.4: what is free in a spawn, and what is not.
func TestDecodeSpawn(t *testing.T) {
	want := bare(api.GSpawn)
	want.Args = ones(2)
	from := want.From
	for _, leader := range append(terms(), pid("a@h", 1, 6, 0), chain(200, num(1)), tuple(ones(4000)...)) {
		takes(t, "another second From", body(t, spawning(leader, call(2), null()), proper(2)), want)
	}
	for _, options := range []api.Term{null(), proper(1), list(symbol("link"), null()), list(tuple(symbol("priority"), symbol("high")), symbol("monitor"), null()), list(null(), null()), list(list(num(1), num(2)), null()), proper(3000)} {
		takes(t, "options", body(t, spawning(from, call(2), options), proper(2)), want)
	}
	for _, options := range append(terms(), list(num(1), num(2)), list(num(1), null(), symbol("x")), list(proper(2), symbol("")), list(num(1), tuple())) {
		if options.Kind == api.KNil || options.Kind == api.KList && options.Args[len(options.Args)-1].Kind == api.KNil {
			continue
		}
		rejects(t, "no options", body(t, spawning(from, call(2), options), proper(2)), own(1, api.ErrControl))
	}
	for _, c := range []api.Term{
		null(), num(2), symbol("m"), tuple(), tuple(symbol("m"), symbol("f")), tuple(symbol("m"), symbol("f"), num(2), num(2)), list(symbol("m"), symbol("f"), num(2), null()), list(symbol("m"), symbol("f"), num(2)),
		tuple(num(1), symbol("f"), num(2)), tuple(symbol("m"), num(1), num(2)), tuple(symbol("m"), symbol("f"), symbol("2")), tuple(symbol("m"), symbol("f"), null()), tuple(symbol("m"), symbol("f"), proper(2)), tuple(from, symbol("f"), num(2)), tuple(symbol("m"), null(), num(2)),
		call(-1), call(256), call(257), call(256 + 2), call(math.MaxInt32), call(math.MinInt32), call(math.MinInt32 + 2),
	} {
		for _, message := range []api.Term{proper(2), null(), proper(256), num(1)} {
			rejects(t, "no call", body(t, spawning(from, c, null()), message), own(1, api.ErrControl))
		}
	}
	for _, arity := range []int{0, 1, 2, 254, 255} {
		control := spawning(from, call(int64(arity)), null())
		want.Args = ones(arity)
		takes(t, "an Arity", body(t, control, proper(arity)), want)
		at := len(body(t, control))
		for _, n := range []int{arity - 1, arity + 1, arity + 256} {
			if n >= 0 {
				rejects(t, "another Arity", body(t, control, proper(n)), own(at, api.ErrControl))
			}
		}
		for _, message := range []api.Term{num(int64(arity)), symbol(""), tuple(ones(arity)...), tuple(), from} {
			rejects(t, "no list", body(t, control, message), own(at, api.ErrControl))
		}
		if arity > 0 {
			rejects(t, "no proper list", body(t, control, list(append(ones(arity), num(1))...)), own(at, api.ErrControl))
			rejects(t, "no proper list, its tail counted", body(t, control, list(append(ones(arity), symbol(""))...)), own(at, api.ErrControl))
		}
		if arity > 1 {
			rejects(t, "no proper list, one less", body(t, control, list(ones(arity)...)), own(at, api.ErrControl))
		}
	}
	want.Mod, want.Fun, want.Args = "", "it's", []api.Term{proper(2), tuple(null())}
	takes(t, "other atoms", body(t, spawning(from, tuple(symbol(""), symbol("it's"), num(2)), null()), list(proper(2), tuple(null()), null())), want)
}

// P9.4: a reply's number is any int, its Reason a pid or any atom.
func TestDecodeReply(t *testing.T) {
	for _, n := range []int64{0, 1, 2, 3, 255, 256, -1, math.MaxInt32, math.MinInt32} {
		for _, reason := range []api.Term{symbol(""), symbol("noconnection"), pid("b@h", 1, 9, 0)} {
			want := bare(api.GSpawnReply)
			want.Reason = reason
			takes(t, "a number", body(t, tuple(num(31), want.Ref, want.To, num(n), reason)), want)
		}
	}
}

// P9.4: where several errors apply, the one that is named first.
func TestDecodeOrder(t *testing.T) {
	wrong := []byte{131, 107}
	good := body(t, read(t, "{2, '', <b@h.1.7.0>}"))
	spawn := body(t, spawning(pid("a@h", 1, 5, 0), call(1), null()))
	rejects(t, "too long, and another first byte", make([]byte, 131073), own(0, api.ErrLong))
	rejects(t, "another first byte, and no term", append([]byte{111}, wrong...), own(0, api.ErrPass))
	rejects(t, "no term, and no other", slices.Concat([]byte{112}, wrong, wrong), own(1, api.ErrTag), below(1, api.ErrTag))
	rejects(t, "no control message, and no term", append(body(t, num(1)), wrong...), own(1, api.ErrControl))
	rejects(t, "no control message, and bytes behind", append(body(t, read(t, "{1, a, b}")), 1, 2, 3), own(1, api.ErrControl))
	rejects(t, "no message, and bytes behind", slices.Concat(good, wrong, good), own(len(good), api.ErrTag), below(1, api.ErrTag))
	rejects(t, "no version of a message", slices.Concat(good, []byte{97, 1}), own(len(good), api.ErrVersion), below(0, api.ErrVersion))
	rejects(t, "a message, and bytes behind", slices.Concat(good, []byte{131, 106}, wrong), own(len(good)+2, api.ErrExtra))
	rejects(t, "no Args, and bytes behind", slices.Concat(spawn, []byte{131, 106}, wrong), own(len(spawn), api.ErrControl))
	rejects(t, "no term as Args", slices.Concat(spawn, wrong), own(len(spawn), api.ErrTag), below(1, api.ErrTag))
	rejects(t, "no call, and no term", slices.Concat(body(t, spawning(null(), call(256), null())), wrong), own(1, api.ErrControl))
	rejects(t, "an atom that is none", []byte{112, 131, 119, 1, 255}, own(1, api.ErrUTF), below(1, api.ErrUTF), api.Fault{Layer: "atom", Code: api.ErrUTF})
	rejects(t, "a message of an atom that is none", append(slices.Clone(good), 131, 119, 2, 'a', 255), own(len(good), api.ErrUTF), below(1, api.ErrUTF), api.Fault{Layer: "atom", At: 1, Code: api.ErrUTF})
	rejects(t, "a pid of no node", append([]byte{112, 131, 88, 119, 1, 'a'}, make([]byte, 12)...), own(1, api.ErrName), below(1, api.ErrName), api.Fault{Layer: "atom", Code: api.ErrName})
	rejects(t, "too long a term", slices.Concat([]byte{112, 131, 105, 0, 0, 1, 255}, slices.Repeat(append([]byte{119, 255}, make([]byte, 255)...), 300)), own(1, api.ErrLong), below(65284, api.ErrLong))
	rejects(t, "the chapter's example", []byte{111}, own(0, api.ErrPass))
	rejects(t, "the chapter's example", []byte{112, 131, 104, 3, 97, 1, 119, 1, 'a', 119, 1, 'b'}, own(1, api.ErrControl))
}

// wide writes a term in the grammar's other way: wide numbers, and each list as a chain of tails.
func wide(t api.Term) []byte {
	word := func(nums ...uint32) []byte {
		var b []byte
		for _, n := range nums {
			b = binary.BigEndian.AppendUint32(b, n)
		}
		return b
	}
	name := append([]byte{118, byte(len(t.Text) >> 8), byte(len(t.Text))}, t.Text...)
	var b []byte
	switch t.Kind {
	case api.KInt:
		return append([]byte{98}, word(uint32(t.Int))...)
	case api.KAtom:
		return name
	case api.KPid:
		return slices.Concat([]byte{88}, name, word(t.Nums...), word(t.Creation))
	case api.KRef:
		return slices.Concat([]byte{90, 0, 3}, name, word(t.Creation), word(t.Nums...))
	case api.KTuple:
		b = append([]byte{105}, word(uint32(len(t.Args)))...)
	case api.KNil:
		return []byte{106}
	}
	for i, arg := range t.Args {
		if t.Kind == api.KList && i < len(t.Args)-1 {
			b = append(b, 108, 0, 0, 0, 1)
		}
		b = append(b, wide(arg)...)
	}
	return b
}

// P9.4, P9.7: a control message and a message in the grammar's other way.
func TestDecodeWide(t *testing.T) {
	for _, s := range signals() {
		x := tell(s)
		b := append([]byte{112, 131}, wide(x.control)...)
		if x.behind {
			b = append(append(b, 131), wide(x.message)...)
		}
		if slices.Equal(b, encode(t, s)) {
			t.Errorf("there is no other way for %s", show(s))
		}
		takes(t, "wide", b, s)
	}
	want := bare(api.GSpawn)
	want.Args = nil
	options := list(num(1), symbol("x"), null())
	takes(t, "options as a chain", slices.Concat([]byte{112, 131}, wide(spawning(want.From, call(0), options)), []byte{131, 106}), want)
}
