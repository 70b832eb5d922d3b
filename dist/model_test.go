package dist_test

import (
	"errors"
	"fmt"
	"math"
	"math/rand"
	"slices"
	"strings"
	"testing"

	"heddle/api"
	"heddle/atom"
	"heddle/dist"
	"heddle/etf"
	"heddle/sample"
	"heddle/term"
)

// Short names for the terms that tests make by hand.
var (
	num, symbol, ref, pid, tuple = sample.Int, sample.Atom, sample.Ref, sample.Pid, sample.Tuple
	null, list, ones, chain      = sample.Nil, sample.List, sample.Ones, sample.Chain
	scribble                     = sample.Scribble
)

var (
	kinds   = []api.SigKind{api.GLink, api.GSend, api.GExit, api.GRegSend, api.GExit2, api.GMonitor, api.GDemonitor, api.GMonitorExit, api.GSpawn, api.GSpawnReply, api.GUnlink, api.GUnlinkAck}
	noKinds = []api.SigKind{math.MinInt, -1, 0, 4, 5, 7, 9, 12, 16, 18, 22, 23, 28, 30, 32, 33, 34, 37, 256 + 1, 1<<31 + 1, 1<<32 + 2, math.MaxInt}
)

// table is the chapter's: what stands behind the number, and behind a / the message.
func table(k api.SigKind) string {
	switch k {
	case 1:
		return "From To"
	case 2:
		return "'' To / Msg"
	case 3, 8:
		return "From To Reason"
	case 6:
		return "From '' Name / Msg"
	case 19, 20:
		return "From What Ref"
	case 21:
		return "What To Ref Reason"
	case 29:
		return "Ref From From {Mod,Fun,Arity} [] / Args"
	case 31:
		return "Ref To 0 Reason"
	case 35, 36:
		return "ID From To"
	}
	return ""
}

// words is the table's row, cut.
func words(k api.SigKind) (control []string, message string) {
	row, message, _ := strings.Cut(table(k), " / ")
	return strings.Fields(row), message
}

func isTerm(t api.Term, kinds ...api.Kind) bool {
	return term.Check(t) == nil && (len(kinds) == 0 || slices.Contains(kinds, t.Kind))
}

// what is the term behind the word What: of kind 21 From takes To's part.
func what(s api.Sig) api.Term {
	p := s.To
	if s.Kind == 21 {
		p = s.From
	}
	if isTerm(p, api.KPid) {
		return p
	}
	return symbol(s.Name)
}

// standing is the term for which a word of the table stands in a signal, and whether it is of the kind said.
func standing(word string, s api.Sig) (api.Term, bool) {
	switch word {
	case "From":
		return s.From, isTerm(s.From, api.KPid)
	case "To":
		return s.To, isTerm(s.To, api.KPid)
	case "What":
		return what(s), isTerm(what(s), api.KPid, api.KAtom)
	case "Name":
		return symbol(s.Name), atom.Valid(s.Name)
	case "Ref":
		return s.Ref, isTerm(s.Ref, api.KRef)
	case "ID":
		return num(int64(s.ID)), 1 <= s.ID && s.ID <= math.MaxInt32
	case "Msg":
		return s.Msg, isTerm(s.Msg)
	case "Reason":
		if s.Kind == 31 {
			return s.Reason, isTerm(s.Reason, api.KPid, api.KAtom)
		}
		return s.Reason, isTerm(s.Reason)
	case "Args":
		args := null()
		if len(s.Args) > 0 {
			args = list(append(slices.Clone(s.Args), null())...)
		}
		return args, !slices.ContainsFunc(s.Args, func(t api.Term) bool { return !isTerm(t) })
	case "{Mod,Fun,Arity}":
		return tuple(symbol(s.Mod), symbol(s.Fun), num(int64(len(s.Args)))), atom.Valid(s.Mod) && atom.Valid(s.Fun) && len(s.Args) <= 255
	case "0":
		return num(0), true
	case "[]":
		return null(), true
	}
	return symbol(""), true
}

// told is what the chapter says of a signal: its control message and its message, if it is one.
type told struct {
	right   bool
	control api.Term
	behind  bool
	message api.Term
}

func tell(s api.Sig) told {
	row, message := words(s.Kind)
	x := told{right: len(row) > 0, control: tuple(num(int64(s.Kind))), behind: message != ""}
	for _, word := range row {
		t, ok := standing(word, s)
		x.right = x.right && ok
		x.control.Args = append(x.control.Args, t)
	}
	if x.behind {
		var ok bool
		x.message, ok = standing(message, s)
		x.right = x.right && ok
	}
	return x
}

// fault is one of layer dist.
func fault(at int, code api.Errno) []api.Fault {
	return []api.Fault{{Layer: "dist", At: at, Code: code}}
}

// above is a fault of layer dist with the chain of an error under it.
func above(at int, err error) []api.Fault {
	var f *api.Fault
	if !errors.As(err, &f) {
		panic("no fault")
	}
	faults := fault(at, f.Code)
	for ; f != nil; f, _ = f.Under.(*api.Fault) {
		faults = append(faults, api.Fault{Layer: f.Layer, At: f.At, Code: f.Code})
	}
	return faults
}

// encoding is what Encode must tell of a signal: bytes, or faults.
func encoding(s api.Sig) ([]byte, []api.Fault) {
	x := tell(s)
	if !x.right {
		return nil, fault(0, api.ErrSig)
	}
	if !isTerm(x.control) {
		return nil, fault(1, api.ErrSig)
	}
	b, err := etf.Encode(x.control)
	if err != nil {
		return nil, above(0, err)
	}
	b = append([]byte{112}, b...)
	if x.behind {
		more, err := etf.Encode(x.message)
		if err != nil {
			return nil, above(1, err)
		}
		b = append(b, more...)
	}
	return b, nil
}

// stands puts into a signal what stands at a word's place, and tells whether it may.
func stands(word string, s *api.Sig, t api.Term) bool {
	switch word {
	case "From":
		s.From = t
		return t.Kind == api.KPid
	case "To":
		s.To = t
		return t.Kind == api.KPid
	case "Ref":
		s.Ref = t
		return t.Kind == api.KRef
	case "Name":
		s.Name = t.Text
		return t.Kind == api.KAtom
	case "ID":
		s.ID = uint32(t.Int)
		return t.Kind == api.KInt && t.Int > 0
	case "What":
		if t.Kind == api.KAtom {
			s.Name = t.Text
		} else if s.Kind == 21 {
			s.From = t
		} else {
			s.To = t
		}
		return t.Kind == api.KAtom || t.Kind == api.KPid
	case "Reason":
		s.Reason = t
		return s.Kind != 31 || t.Kind == api.KAtom || t.Kind == api.KPid
	case "0":
		return t.Kind == api.KInt
	case "''":
		return t.Kind == api.KAtom && t.Text == ""
	case "[]":
		return isProper(t)
	}
	if t.Kind != api.KTuple || len(t.Args) != 3 || t.Args[0].Kind != api.KAtom || t.Args[1].Kind != api.KAtom || t.Args[2].Kind != api.KInt {
		return false
	}
	s.Mod, s.Fun = t.Args[0].Text, t.Args[1].Text
	return 0 <= t.Args[2].Int && t.Args[2].Int <= 255
}

func isProper(t api.Term) bool {
	return t.Kind == api.KNil || t.Kind == api.KList && t.Args[len(t.Args)-1].Kind == api.KNil
}

// decoding is what Decode must tell of bytes: a signal, or faults.
func decoding(b []byte) (api.Sig, []api.Fault) {
	if len(b) > 131072 {
		return api.Sig{}, fault(0, api.ErrLong)
	}
	if len(b) == 0 || b[0] != 112 {
		return api.Sig{}, fault(0, api.ErrPass)
	}
	control, n, err := etf.Decode(b[1:], nil)
	if err != nil {
		return api.Sig{}, above(1, err)
	}
	at := 1 + n
	if control.Kind != api.KTuple || len(control.Args) == 0 || control.Args[0].Kind != api.KInt {
		return api.Sig{}, fault(1, api.ErrControl)
	}
	s := api.Sig{Kind: api.SigKind(control.Args[0].Int)}
	row, message := words(s.Kind)
	if len(row) == 0 || len(control.Args) != 1+len(row) {
		return api.Sig{}, fault(1, api.ErrControl)
	}
	for i, word := range row {
		// The second From of a GSpawn is free.
		if s.Kind == 29 && i == 2 {
			continue
		}
		if !stands(word, &s, control.Args[1+i]) {
			return api.Sig{}, fault(1, api.ErrControl)
		}
	}
	if message != "" {
		t, n, err := etf.Decode(b[at:], nil)
		if err != nil {
			return api.Sig{}, above(at, err)
		}
		if message == "Msg" {
			s.Msg = t
		} else if arity := int(control.Args[4].Args[2].Int); !isProper(t) || max(len(t.Args)-1, 0) != arity {
			return api.Sig{}, fault(at, api.ErrControl)
		} else {
			s.Args = t.Args[:arity]
		}
		at += n
	}
	if at < len(b) {
		return api.Sig{}, fault(at, api.ErrExtra)
	}
	return s, nil
}

// alike tells whether all fields are the same, whatever the kind names, nil and empty lists being the same.
func alike(a, b api.Sig) bool {
	same := sample.Same
	return a.Kind == b.Kind && same(a.From, b.From) && same(a.To, b.To) && a.Name == b.Name && same(a.Ref, b.Ref) && a.ID == b.ID &&
		same(a.Reason, b.Reason) && same(a.Msg, b.Msg) && a.Mod == b.Mod && a.Fun == b.Fun && slices.EqualFunc(a.Args, b.Args, same)
}

// refused: err is just that chain of faults, the outermost one of layer dist.
func refused(err error, faults []api.Fault) bool {
	_, outermost := err.(*api.Fault)
	return outermost && sample.IsFault(err, faults...) && errors.Is(err, faults[len(faults)-1].Code)
}

// show is a text of a signal, a term or bytes for those who read a failed test: cut where it is long or deep, for what is made by hand may hold itself.
func show(x any) string {
	text := ""
	switch x := x.(type) {
	case api.Sig:
		text = fmt.Sprintf("{%d From %s To %s Name %+q Ref %s ID %d Reason %s Msg %s Mod %+q Fun %+q Args %s}", x.Kind, show(x.From), show(x.To), x.Name, show(x.Ref), x.ID, show(x.Reason), show(x.Msg), x.Mod, x.Fun, showTerms(x.Args, 3))
	case api.Term:
		text = showTerms([]api.Term{x}, 3)
	case []byte:
		text = fmt.Sprint(len(x), " bytes ", x[:min(len(x), 80)])
	}
	return text[:min(len(text), 800)]
}

func showTerms(terms []api.Term, depth int) string {
	text := ""
	for _, t := range terms[:min(len(terms), 4)] {
		inner := ""
		if depth > 0 {
			inner = showTerms(t.Args, depth-1)
		}
		text += fmt.Sprintf(" %d/%d/%+.20q/%d/%v/%d[%s]", t.Kind, t.Int, t.Text, t.Creation, t.Nums, len(t.Args), inner)
	}
	return text
}

// tells: all calls tell of a signal what the chapter says of it.
func tells(t *testing.T, s api.Sig) {
	t.Helper()
	x := tell(s)
	err := dist.Check(s)
	if x.right && err != nil || !x.right && !refused(err, fault(0, api.ErrSig)) {
		t.Errorf("Check(%s) = %v", show(s), err)
	}
	if dist.Same(s, s) != x.right {
		t.Errorf("Same of %s with itself is %v", show(s), !x.right)
	}
	b, faults := encoding(s)
	got, err := dist.Encode(s)
	if faults == nil && (err != nil || !slices.Equal(got, b)) || faults != nil && (len(got) > 0 || !refused(err, faults)) {
		t.Errorf("Encode(%s) = %s, %v, want %s, %v", show(s), show(got), err, show(b), faults)
	}
	control, behind, err := dist.Control(s)
	if x.right && isTerm(x.control) {
		if err != nil || behind != x.behind || !sample.Same(control, x.control) {
			t.Errorf("Control(%s) = %s, %v, %v, want %s, %v", show(s), show(control), behind, err, show(x.control), x.behind)
		}
	} else if !refused(err, faults) || behind || !sample.IsZero(control) {
		t.Errorf("Control(%s) = %s, %v, %v, want %v", show(s), show(control), behind, err, faults)
	}
	if faults == nil {
		decodes(t, b)
	}
}

// decodes: Decode tells of bytes what the chapter says of them; what it takes is a signal that comes back.
func decodes(t *testing.T, b []byte) {
	t.Helper()
	want, faults := decoding(b)
	s, err := dist.Decode(b)
	if faults != nil {
		if !alike(s, api.Sig{}) || !refused(err, faults) {
			t.Errorf("Decode(%s) = %s, %v, want %v", show(b), show(s), err, faults)
		}
		return
	}
	if err != nil || !alike(s, want) {
		t.Errorf("Decode(%s) = %s, %v, want %s", show(b), show(s), err, show(want))
		return
	}
	again, err := dist.Encode(s)
	if err != nil {
		t.Errorf("Encode of what Decode tells of %s: %v", show(b), err)
	}
	back, err := dist.Decode(again)
	if err != nil || !dist.Same(back, s) || !alike(back, s) {
		t.Errorf("Decode(Encode(%s)) = %s, %v", show(s), show(back), err)
	}
}

// full is a signal of a kind with all fields right, also for all other kinds.
func full(k api.SigKind) api.Sig {
	return api.Sig{Kind: k, From: pid("a@h", 1, 5, 0), To: pid("b@h", 1, 7, 0), Name: "x", Ref: ref("a@h", 1, 1, 2, 3), ID: 3, Reason: symbol("r"), Msg: num(9), Mod: "m", Fun: "f", Args: []api.Term{null(), num(4)}}
}

// bare is likewise, without what the kind does not name; a monitor's What is a pid.
func bare(k api.SigKind) api.Sig {
	s, x := full(k), api.Sig{Kind: k}
	row, message := words(k)
	for _, word := range append(row, message) {
		switch {
		case word == "From" || word == "What" && k == 21:
			x.From = s.From
		case word == "To" || word == "What":
			x.To = s.To
		case word == "Name":
			x.Name = s.Name
		case word == "Ref":
			x.Ref = s.Ref
		case word == "ID":
			x.ID = s.ID
		case word == "Reason":
			x.Reason = s.Reason
		case word == "Msg":
			x.Msg = s.Msg
		case word == "Args":
			x.Mod, x.Fun, x.Args = s.Mod, s.Fun, s.Args
		}
	}
	return x
}

// named is likewise, a monitor's What being a Name.
func named(k api.SigKind) api.Sig {
	s := bare(k)
	switch k {
	case 19, 20:
		s.To, s.Name = api.Term{}, "x"
	case 21:
		s.From, s.Name = api.Term{}, "x"
	}
	return s
}

// terms has one of each kind at least.
func terms() []api.Term {
	return []api.Term{
		num(0), num(29), num(-1), num(math.MaxInt32), num(math.MinInt32), symbol(""), symbol("x"), symbol(strings.Repeat("é", 127)), ref("c@h", 2, 0, 9, math.MaxUint32), pid("c@h.d", 0, math.MaxUint32, 1),
		tuple(), tuple(symbol("m"), symbol("f"), num(2)), null(), list(num(1), null()), list(num(1), num(2)), list(list(symbol("a"), null()), tuple(null())),
	}
}

// noTerms are those that stand nowhere.
func noTerms() []api.Term {
	loop := tuple(null(), null())
	loop.Args[1] = loop
	return []api.Term{
		{}, {Kind: -1}, {Kind: 8}, {Kind: math.MaxInt}, loop,
		pid("a@h", 1), pid("a@h", 1, 5), pid("a@h", 1, 5, 0, 0), pid("", 1, 5, 0), pid("ah", 1, 5, 0), pid("a@h@i", 1, 5, 0), {Kind: api.KPid, Text: "a@h", Nums: []uint32{5, 0}, Int: 1}, {Kind: api.KPid, Text: "a@h", Nums: []uint32{5, 0}, Args: ones(1)},
		ref("a@h", 1, 1, 2), ref("a@h", 1, 1, 2, 3, 4), ref("a", 1, 1, 2, 3), {Kind: api.KRef, Text: "a@h", Nums: []uint32{1, 2, 3}, Int: 1},
		symbol("\xff"), symbol(strings.Repeat("x", 256)), {Kind: api.KAtom, Text: "a", Creation: 1}, num(api.MaxInt + 1), num(api.MinInt - 1), {Kind: api.KInt, Text: "1"}, {Kind: api.KNil, Args: ones(1)},
		list(), list(num(1)), list(num(1), list(num(1), null())), tuple(api.Term{}), list(pid("a@h", 1), null()), tuple(ones(4096)...), chain(256, num(1)),
	}
}

// noAtoms are texts that are no atoms'.
var noAtoms = []string{"\xff", "a\xc3", "\xed\xa0\x80", strings.Repeat("x", 256), strings.Repeat("é", 128), strings.Repeat("x", 1<<17)}

// body is the bytes of terms behind the first byte.
func body(t *testing.T, terms ...api.Term) []byte {
	t.Helper()
	b := []byte{112}
	for _, x := range terms {
		encoded, err := etf.Encode(x)
		if err != nil {
			t.Fatalf("Encode(%s): %v", show(x), err)
		}
		b = append(b, encoded...)
	}
	return b
}

// randomTerm is a term, most often one that may go over the wire, of about that many parts.
func randomTerm(r *rand.Rand, parts int) api.Term {
	if parts > 1 && r.Intn(4) > 0 {
		var args []api.Term
		for left := parts - 1; left > 0; {
			n := 1 + r.Intn(left)
			args = append(args, randomTerm(r, n))
			left -= n
		}
		if r.Intn(2) == 0 {
			return tuple(args...)
		}
		return list(append(args, []api.Term{null(), null(), num(1)}[r.Intn(3)])...)
	}
	node := []string{"a@h", "b@h", "c-d@h.i"}[r.Intn(3)]
	switch r.Intn(8) {
	case 0, 1:
		return pid(node, uint32(r.Intn(3)), r.Uint32(), uint32(r.Intn(2)))
	case 2:
		return ref(node, uint32(r.Intn(3)), r.Uint32(), r.Uint32(), r.Uint32())
	case 3:
		return num(int64(r.Intn(40)))
	case 4:
		return num(int64(int32(r.Uint32())))
	case 5:
		return null()
	case 6:
		if r.Intn(50) == 0 {
			return num(r.Int63() >> r.Intn(40))
		}
		return tuple()
	}
	return symbol([]string{"", "x", "ok", "é", "it's"}[r.Intn(5)])
}
