package dist_test

import (
	"bytes"
	"math/rand"
	"slices"
	"testing"

	"heddle/api"
	"heddle/dist"
	"heddle/sample"
	"heddle/term"
)

// strange is made once: many signals are made of it.
var strange = noTerms()

// randomSig is a signal with fields that are most often right for its kind, and at times are not.
func randomSig(r *rand.Rand) api.Sig {
	k := kinds[r.Intn(len(kinds))]
	if r.Intn(60) == 0 {
		k = noKinds[r.Intn(len(noKinds))]
	}
	s := api.Sig{Kind: k}
	some := func(right api.Term) api.Term {
		switch r.Intn(30) {
		case 0:
			return randomTerm(r, 1)
		case 1:
			return strange[r.Intn(len(strange))]
		}
		return right
	}
	someText := func() string {
		if r.Intn(40) == 0 {
			return noAtoms[r.Intn(len(noAtoms))]
		}
		return []string{"", "x", "y", "é"}[r.Intn(4)]
	}
	node := []string{"a@h", "b@h"}[r.Intn(2)]
	s.From, s.To = some(pid(node, r.Uint32(), r.Uint32(), r.Uint32())), some(pid("b@h", 1, uint32(r.Intn(3)), 0))
	s.Ref = some(ref(node, 1, r.Uint32(), r.Uint32(), r.Uint32()))
	s.ID = r.Uint32() >> r.Intn(33)
	s.Name, s.Mod, s.Fun = someText(), someText(), someText()
	s.Reason, s.Msg = some(randomTerm(r, 1+r.Intn(20))), some(randomTerm(r, 1+r.Intn(20)))
	if k == api.GSpawnReply && r.Intn(4) > 0 {
		s.Reason = symbol("noproc")
	}
	for range r.Intn(4) {
		s.Args = append(s.Args, some(randomTerm(r, 1+r.Intn(5))))
	}
	return s
}

// randomControl is a control message and what stands behind it, most often as the table has it.
func randomControl(r *rand.Rand) []api.Term {
	x := tell(bare(kinds[r.Intn(len(kinds))]))
	args := x.control.Args
	for range r.Intn(3) {
		i := r.Intn(len(args))
		switch r.Intn(8) {
		case 0:
			args = slices.Delete(args, i, i+1)
		case 1:
			args = slices.Insert(args, i, randomTerm(r, 1))
		default:
			args[i] = randomTerm(r, 1+r.Intn(4))
		}
		if len(args) == 0 {
			break
		}
	}
	out := []api.Term{tuple(args...)}
	if x.behind {
		out = append(out, x.message)
	}
	if r.Intn(8) == 0 {
		out = append(out, randomTerm(r, 3))
	}
	return out[:max(1, len(out)-r.Intn(8)/7)]
}

// P9.1 to P9.7, over many signals: all calls tell what the chapter says.
func TestManySignals(t *testing.T) {
	r := rand.New(rand.NewSource(9))
	var right, back int
	for range 20000 {
		s := randomSig(r)
		tells(t, s)
		x := tell(s)
		if x.right {
			right++
		}
		b, err := dist.Encode(s)
		if err != nil {
			continue
		}
		back++
		got, err := dist.Decode(b)
		if err != nil || !dist.Same(got, s) || !dist.Same(s, got) {
			t.Errorf("Decode(Encode(%s)) = %s, %v", show(s), show(got), err)
		}
	}
	if right < 5000 || back < 5000 {
		t.Errorf("only %d signals are right, and %d have bytes", right, back)
	}
}

// P9.4, P9.7, over many control messages and bytes.
func TestManyBodies(t *testing.T) {
	r := rand.New(rand.NewSource(10))
	var good int
	for range 20000 {
		b := []byte{112}
		for _, x := range randomControl(r) {
			encoded := append([]byte{131}, wide(x)...)
			if r.Intn(3) > 0 {
				encoded = body(t, clip(x))[1:]
			}
			b = append(b, encoded...)
		}
		decodes(t, b)
		if s, err := dist.Decode(b); err == nil {
			good++
			if dist.Check(s) != nil {
				t.Errorf("Decode(%s) tells what is no signal: %s", show(b), show(s))
			}
		}
		for range r.Intn(3) {
			i := r.Intn(len(b))
			switch r.Intn(3) {
			case 0:
				b[i] = byte(r.Intn(256))
			case 1:
				b = slices.Insert(b, i, []byte{0, 1, 97, 104, 106, 108, 119, 131, 255}[r.Intn(9)])
			case 2:
				b = b[:i+1]
			}
		}
		decodes(t, b)
	}
	if good < 2000 {
		t.Errorf("only %d bodies are good", good)
	}
}

// clip makes ints small enough for the wire.
func clip(t api.Term) api.Term {
	t = term.Copy(t)
	t.Int = int64(int32(t.Int))
	for i, arg := range t.Args {
		t.Args[i] = clip(arg)
	}
	return t
}

func FuzzDecode(f *testing.F) {
	for _, s := range signals() {
		b, _ := dist.Encode(s)
		f.Add(b)
		f.Add(b[:len(b)-1])
	}
	f.Fuzz(func(t *testing.T, b []byte) { decodes(t, b) })
}

// parts is the terms of a signal.
func parts(s api.Sig) []api.Term {
	return []api.Term{s.From, s.To, s.Ref, s.Reason, s.Msg, tuple(s.Args...)}
}

// rich is a signal of a kind with lists in all its terms, made anew at each call, with room behind its Args.
func rich(k api.SigKind) api.Sig {
	s := full(k)
	deep := func() api.Term {
		return tuple(pid("c@h", 1, 2, 3), list(ref("c@h", 1, 2, 3, 4), tuple(num(1)), null()))
	}
	s.Msg, s.Reason = deep(), deep()
	if k == api.GSpawnReply {
		s.Reason = pid("b@h", 1, 8, 0)
	}
	s.Args = append(make([]api.Term, 0, 5), deep(), deep())
	return s
}

// Rule 4: answers share memory with nothing, and what is handed in stays as it is, also where it is changed behind the call.
func TestNewMemory(t *testing.T) {
	for _, k := range kinds {
		s := rich(k)
		room := s.Args[:5]
		room[2], room[3], room[4] = num(2), num(3), num(4)
		control, _, err := dist.Control(s)
		b, err2 := dist.Encode(s)
		if err != nil || err2 != nil || dist.Check(s) != nil || !dist.Same(s, rich(k)) {
			t.Fatalf("%s: %v, %v", show(s), err, err2)
		}
		want := term.Copy(control)
		if !alike(s, rich(k)) || !slices.EqualFunc(room[2:], []api.Term{num(2), num(3), num(4)}, sample.Same) {
			t.Errorf("a call has changed %s, or what lies behind its Args: %s", show(s), showTerms(room, 1))
		}
		for i := range control.Args {
			scribble(control.Args[i])
			for j := i + 1; j < len(control.Args); j++ {
				if !sample.Same(control.Args[j], want.Args[j]) {
					t.Errorf("elements %d and %d of a control message of kind %d share memory", i, j, k)
				}
			}
		}
		scribble(control)
		if !alike(s, rich(k)) {
			t.Errorf("Control shares memory with its signal of kind %d", k)
		}
		kept := bytes.Clone(b)
		for _, x := range parts(s) {
			scribble(x)
		}
		scribble(api.Term{Args: s.Args})
		if again, err := dist.Encode(rich(k)); err != nil || !bytes.Equal(b, kept) || !bytes.Equal(again, kept) {
			t.Errorf("Encode's bytes of kind %d hang on what their signal becomes", k)
		}
		if again, _, _ := dist.Control(rich(k)); !sample.Same(again, want) {
			t.Errorf("Control of kind %d hangs on its answers before", k)
		}
	}
}

// Rule 4: Decode neither changes nor keeps its bytes, and its terms share no memory.
func TestDecodeNewMemory(t *testing.T) {
	for _, k := range kinds {
		b, err := dist.Encode(rich(k))
		if err != nil {
			t.Fatal(err)
		}
		kept := bytes.Clone(b)
		first, _ := dist.Decode(b)
		second, err := dist.Decode(b)
		if err != nil || !bytes.Equal(b, kept) {
			t.Fatalf("Decode has changed its bytes of kind %d: %v", k, err)
		}
		for i := range b {
			b[i] = 77
		}
		if !dist.Same(first, rich(k)) {
			t.Errorf("Decode keeps its bytes of kind %d: %s", k, show(first))
		}
		before := parts(copied(second))
		all := parts(first)
		for i := range all {
			scribble(all[i])
			for j := i + 1; j < len(all); j++ {
				if !sample.Same(all[j], before[j]) {
					t.Errorf("terms %d and %d of a signal of kind %d share memory", i, j, k)
				}
			}
		}
		scribble(api.Term{Args: first.Args})
		if !dist.Same(second, rich(k)) {
			t.Errorf("two answers of kind %d share memory: %s", k, show(second))
		}
	}
}

// copied is a signal in memory of its own.
func copied(s api.Sig) api.Sig {
	for _, t := range []*api.Term{&s.From, &s.To, &s.Ref, &s.Reason, &s.Msg} {
		*t = term.Copy(*t)
	}
	s.Args = term.Copy(tuple(s.Args...)).Args
	return s
}

// Rule 4: nil and empty lists are the same.
func TestEmptyLists(t *testing.T) {
	a, b := bare(api.GSpawn), bare(api.GSpawn)
	a.Args, b.Args = nil, []api.Term{}
	x, _ := dist.Encode(a)
	y, err := dist.Encode(b)
	if err != nil || !bytes.Equal(x, y) || !dist.Same(a, b) {
		t.Errorf("%v, %v, %v", x, y, err)
	}
	b = bare(api.GSend)
	b.To.Args, b.Msg.Nums, b.Msg.Args = []api.Term{}, []uint32{}, []api.Term{}
	if !dist.Same(b, bare(api.GSend)) || dist.Check(b) != nil {
		t.Errorf("%s", show(b))
	}
}

// Rule 5: a call hangs on its arguments alone: refused ones change nothing for those behind them.
func TestCallsKeepNothing(t *testing.T) {
	r := rand.New(rand.NewSource(11))
	want := map[api.SigKind][]byte{}
	for _, k := range kinds {
		want[k], _ = dist.Encode(full(k))
	}
	for range 2000 {
		s := randomSig(r)
		dist.Check(s)
		dist.Control(s)
		dist.Same(s, full(s.Kind))
		b, _ := dist.Encode(s)
		dist.Decode(b[:len(b)/2])
		k := kinds[r.Intn(len(kinds))]
		if b, err := dist.Encode(full(k)); err != nil || !bytes.Equal(b, want[k]) {
			t.Fatalf("Encode of kind %d: %v, %v", k, b, err)
		}
		if s, err := dist.Decode(want[k]); err != nil || !alike(s, bare(k)) {
			t.Fatalf("Decode of kind %d: %s, %v", k, show(s), err)
		}
	}
}
