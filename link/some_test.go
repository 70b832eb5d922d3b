package link_test

import (
	"errors"
	"fmt"
	"regexp"
	"slices"
	"strconv"
	"strings"
	"testing"

	"heddle/api"
	"heddle/link"
	"heddle/sample"
	"heddle/term"
)

var num, word, tuple, list, null, pid, ref = sample.Int, sample.Atom, sample.Tuple, sample.List, sample.Nil, sample.Pid, sample.Ref

// Short texts of what tests speak of: the pid <a@h.1.7.0> is a7, <a@h.2.7.3> is a7/2.3; the reference #Ref<a@h.1.7.0.0> is a#7. `-` is no term at all. A name on a node is x@a, a signal's Name 'x.
var (
	shortPid = regexp.MustCompile(`^([a-z])(\d+)(?:/(\d+))?(?:\.(\d+))?$`)
	shortRef = regexp.MustCompile(`^([a-z])#(\d+)$`)
)

func natural(s string, unsaid uint32) uint32 {
	if s == "" {
		return unsaid
	}
	n, err := strconv.ParseUint(s, 10, 32)
	if err != nil {
		panic(err)
	}
	return uint32(n)
}

// val is the value of a short text, or of a term's text.
func val(s string) api.Term {
	if s == "-" {
		return api.Term{}
	}
	if m := shortPid.FindStringSubmatch(s); m != nil {
		return pid(m[1]+"@h", natural(m[3], 1), natural(m[2], 0), natural(m[4], 0))
	}
	if m := shortRef.FindStringSubmatch(s); m != nil {
		return ref(m[1]+"@h", 1, natural(m[2], 0), 0, 0)
	}
	x, err := term.Read(s)
	if err != nil {
		panic(s + ": " + err.Error())
	}
	return x
}

// show is the short text of a value.
func show(x api.Term) string {
	node := strings.TrimSuffix(x.Text, "@h")
	switch {
	case sample.IsZero(x):
		return "-"
	case x.Kind == api.KPid && len(x.Nums) == 2:
		s := node + strconv.Itoa(int(x.Nums[0]))
		if x.Creation != 1 {
			s += "/" + strconv.Itoa(int(x.Creation))
		}
		if x.Nums[1] != 0 {
			s += "." + strconv.Itoa(int(x.Nums[1]))
		}
		return s
	case x.Kind == api.KRef && sample.Same(x, ref(x.Text, 1, append(slices.Clone(x.Nums), 0)[0], 0, 0)):
		return node + "#" + strconv.Itoa(int(x.Nums[0]))
	case x.Kind == api.KTuple && len(x.Args) == 2 && x.Args[1].Kind == api.KAtom && strings.HasSuffix(x.Args[1].Text, "@h"):
		return show(x.Args[0]) + "@" + strings.TrimSuffix(x.Args[1].Text, "@h")
	}
	s, err := term.Print(x)
	if err != nil {
		// Its Args may hold themselves.
		s = fmt.Sprintf("no term (%v; %d %d %.20q %d %v %d)", err, x.Kind, x.Int, x.Text, x.Creation, x.Nums, len(x.Args))
	}
	return s[:min(len(s), 200)]
}

func showAll(terms []api.Term) string {
	var texts []string
	for _, x := range terms {
		texts = append(texts, show(x))
	}
	return strings.Join(texts, " ")
}

// sigWords is each kind's word, and the fields that stand behind it. W is To, or the Name; E is From, or the Name.
var sigWords = map[api.SigKind]string{
	api.GLink: "link F T", api.GExit: "exit F T R", api.GUnlink: "unlink I F T", api.GUnlinkAck: "ack I F T",
	api.GMonitor: "monitor F W B", api.GDemonitor: "demonitor F W B", api.GMonitorExit: "ended E T B R",
	api.GSend: "send T M", api.GRegSend: "regsend F N M", api.GExit2: "exit2 F T R", api.GSpawn: "spawn B F", api.GSpawnReply: "reply B T R",
}

// sig is the signal of words.
func sig(words ...string) api.Sig {
	for kind, text := range sigWords {
		form := strings.Fields(text)
		if form[0] != words[0] || len(form) != len(words) {
			continue
		}
		s := api.Sig{Kind: kind}
		for i, field := range form[1:] {
			put(&s, field, words[i+1])
		}
		return s
	}
	panic(fmt.Sprintf("no signal: %q", words))
}

func put(s *api.Sig, field, text string) {
	name, isName := strings.CutPrefix(text, "'")
	switch {
	case field == "N" || isName:
		s.Name = name
	case field == "F" || field == "E":
		s.From = val(text)
	case field == "T" || field == "W":
		s.To = val(text)
	case field == "B":
		s.Ref = val(text)
	case field == "R":
		s.Reason = val(text)
	case field == "M":
		s.Msg = val(text)
	case field == "I":
		s.ID = natural(text, 0)
	}
}

// showSig is a signal's words; what must be zero in it and is not is told, too.
func showSig(s api.Sig) string {
	words := strings.Fields(sigWords[s.Kind])
	if len(words) == 0 {
		return fmt.Sprintf("%+v", s)
	}
	rest := s
	rest.Kind = 0
	for i, field := range words[1:] {
		text := &words[i+1]
		switch {
		case field == "N", field == "W" && s.To.Kind == 0, field == "E" && s.From.Kind == 0:
			*text, rest.Name = "'"+s.Name, ""
		case field == "F" || field == "E":
			*text, rest.From = show(s.From), api.Term{}
		case field == "T" || field == "W":
			*text, rest.To = show(s.To), api.Term{}
		case field == "B":
			*text, rest.Ref = show(s.Ref), api.Term{}
		case field == "R":
			*text, rest.Reason = show(s.Reason), api.Term{}
		case field == "M":
			*text, rest.Msg = show(s.Msg), api.Term{}
		case field == "I":
			*text, rest.ID = strconv.Itoa(int(s.ID)), 0
		}
	}
	text := strings.Join(words, " ")
	if !sameSig(rest, api.Sig{}) {
		text += fmt.Sprintf(" and %+v", rest)
	}
	return text
}

func sameSig(a, b api.Sig) bool {
	return a.Kind == b.Kind && sample.Same(a.From, b.From) && sample.Same(a.To, b.To) && a.Name == b.Name && sample.Same(a.Ref, b.Ref) && a.ID == b.ID &&
		sample.Same(a.Reason, b.Reason) && sample.Same(a.Msg, b.Msg) && a.Mod == b.Mod && a.Fun == b.Fun && slices.EqualFunc(a.Args, b.Args, sample.Same)
}

func sameEffect(a, b api.Effect) bool {
	return a.Kind == b.Kind && a.Node == b.Node && sameSig(a.Sig, b.Sig) && sample.Same(a.To, b.To) && sample.Same(a.From, b.From) &&
		sample.Same(a.Ref, b.Ref) && sample.Same(a.What, b.What) && sample.Same(a.Reason, b.Reason)
}

// showEffect is `NODE: SIGNAL`, `exit TO FROM REASON`, `down TO REF WHAT REASON`; what must be zero in it and is not is told, too.
func showEffect(e api.Effect) string {
	var s string
	rest := e
	rest.Kind = 0
	switch e.Kind {
	case api.FSignal:
		s = strings.TrimSuffix(e.Node, "@h") + ": " + showSig(e.Sig)
		rest.Node, rest.Sig = "", api.Sig{}
	case api.FExit:
		s = "exit " + showAll([]api.Term{e.To, e.From, e.Reason})
		rest.To, rest.From, rest.Reason = api.Term{}, api.Term{}, api.Term{}
	case api.FDown:
		s = "down " + showAll([]api.Term{e.To, e.Ref, e.What, e.Reason})
		rest.To, rest.Ref, rest.What, rest.Reason = api.Term{}, api.Term{}, api.Term{}, api.Term{}
	}
	if !sameEffect(rest, api.Effect{}) {
		s += fmt.Sprintf(" and %+v", rest)
	}
	return s
}

func showEffects(effects []api.Effect) string {
	var texts []string
	for _, e := range effects {
		texts = append(texts, showEffect(e))
	}
	return strings.Join(texts, "; ")
}

// step is one call, with all that it is given.
type step struct {
	call       string
	p, q, ref  api.Term // q is also whom a Name is of, or a reason
	name, node string
	sig        api.Sig
}

// perform is the call, of a table.
func (s step) perform(x *link.Table) ([]api.Effect, error) {
	switch s.call {
	case "born":
		return nil, x.Born(s.p)
	case "link":
		return x.Link(s.p, s.q)
	case "unlink":
		return x.Unlink(s.p, s.q)
	case "monitor":
		return x.Monitor(s.p, s.ref, s.q, s.name, s.node)
	case "demonitor":
		return x.Demonitor(s.p, s.ref)
	case "end":
		return x.End(s.p, s.q)
	case "take":
		return x.Take(s.node, s.sig, s.q)
	case "down":
		return x.Down(s.node)
	}
	panic("no call: " + s.call)
}

func (s step) String() string {
	text := s.call + " " + showAll([]api.Term{s.p, s.q, s.ref}) + " " + s.name + "@" + s.node
	if s.call == "take" {
		text = fmt.Sprintf("take %s %s as %s", s.node, showSig(s.sig), show(s.q))
	}
	return text
}

// makeStep is the call of words: born P; link, unlink P Q; monitor P REF Q; monitor P REF NAME@NODE Q; demonitor P REF; end P REASON; take NODE SIGNAL .. [as P]; down NODE.
func makeStep(words []string) step {
	s := step{call: words[0]}
	if s.call == "take" || s.call == "down" {
		s.node = words[1] + "@h"
		words = words[2:]
		if i := slices.Index(words, "as"); i >= 0 {
			s.q, words = val(words[i+1]), words[:i]
		}
		if s.call == "take" {
			s.sig = sig(words...)
		}
		return s
	}
	s.p = val(words[1])
	rest := words[2:]
	if s.call == "monitor" || s.call == "demonitor" {
		s.ref, rest = val(rest[0]), rest[1:]
	}
	if s.call == "monitor" && strings.Contains(rest[0], "@") {
		name, node, _ := strings.Cut(rest[0], "@")
		s.name, s.node, rest = name, node+"@h", rest[1:]
	}
	if len(rest) > 0 {
		s.q = val(rest[0])
	}
	return s
}

// asked is what a table tells of words: links P, monitors P, watchers P, alive P, halves NODE.
func asked(x *link.Table, words []string) (string, bool) {
	switch words[0] {
	case "links":
		return showAll(x.Links(val(words[1]))), true
	case "monitors":
		return showAll(x.Monitors(val(words[1]))), true
	case "watchers":
		return showAll(x.Watchers(val(words[1]))), true
	case "alive":
		return strconv.FormatBool(x.Alive(val(words[1]))), true
	case "halves":
		return strconv.Itoa(x.Halves(words[1] + "@h")), true
	}
	return "", false
}

// play does calls, a line each, and holds what each comes to: `CALL -> EFFECT; EFFECT`. A number behind `!` is that with which a call is refused: then nothing is to be seen of it.
func play(t testing.TB, x *link.Table, text string) {
	t.Helper()
	for line := range strings.Lines(text) {
		line = strings.TrimSpace(line)
		if line == "" {
			continue
		}
		call, want, _ := strings.Cut(line, " ->")
		want = strings.TrimSpace(want)
		words := strings.Fields(call)
		if got, ok := asked(x, words); ok {
			if got != want {
				t.Fatalf("%s: %s", line, got)
			}
			continue
		}
		before := look(x)
		effects, err := makeStep(words).perform(x)
		if code, wrong := strings.CutPrefix(want, "!"); wrong {
			var outer *api.Fault
			if !errors.As(err, &outer) || outer.Layer != "link" || outer.At != 0 || strconv.Itoa(int(outer.Code)) != code || len(effects) > 0 || look(x) != before {
				t.Fatalf("%s: %s, %v; %s was %s", line, showEffects(effects), err, look(x), before)
			}
			continue
		}
		if got := showEffects(effects); err != nil || got != want {
			t.Fatalf("%s: got %s, %v", line, got, err)
		}
	}
}

// somePids are those of which look asks.
func somePids() []api.Term {
	all := []api.Term{val("a1/2"), val("a1.1"), val("b1"), val("b7"), val("c7"), word("foo"), {}}
	for id := range uint32(10) {
		all = append(all, pid("a@h", 1, id, 0))
	}
	return all
}

// look is all that is to be seen of a table, of some pids and nodes.
func look(x *link.Table) string {
	var text strings.Builder
	for _, p := range somePids() {
		links, monitors, watchers := x.Links(p), x.Monitors(p), x.Watchers(p)
		if x.Alive(p) || len(links)+len(monitors)+len(watchers) > 0 {
			fmt.Fprintf(&text, "%s %t [%s] [%s] [%s], ", show(p), x.Alive(p), showAll(links), showAll(monitors), showAll(watchers))
		}
	}
	for _, node := range []string{"a@h", "b@h", "c@h", "d@h"} {
		if n := x.Halves(node); n != 0 {
			fmt.Fprintf(&text, "%s %d, ", node, n)
		}
	}
	return text.String()
}

// open is the table of a@h, creation 1, with those processes.
func open(t testing.TB, pids ...string) *link.Table {
	t.Helper()
	x, err := link.New("a@h", 1)
	if err != nil || x == nil {
		t.Fatalf("New: %v, %v", x, err)
	}
	for _, p := range pids {
		done(t, "Born", x.Born(val(p)))
	}
	return x
}

func done(t testing.TB, what string, err error) {
	t.Helper()
	if err != nil {
		t.Fatalf("%s: %v", what, err)
	}
}

// fault is one of this layer.
func fault(code api.Errno) api.Fault { return api.Fault{Layer: "link", Code: code} }

// refused: the error is the fault of this layer with that number, at 0, with nothing under, and nothing else is told.
func refused(t testing.TB, what string, effects []api.Effect, err error, code api.Errno) {
	t.Helper()
	if len(effects) > 0 || !sample.IsFault(err, fault(code)) {
		t.Fatalf("%s: %s, %v, want errno %d of layer link at 0", what, showEffects(effects), err, code)
	}
}

// loop is a value that holds itself.
func loop() api.Term {
	x := tuple(null(), null())
	x.Args[1] = x
	return x
}

// noTerms are values that are no terms; most look like pids or references.
func noTerms() []api.Term {
	return []api.Term{
		{Kind: -1}, {Kind: 8}, {Text: "a@h"}, {Nums: []uint32{1, 0}}, loop(),
		pid("a@h", 1), pid("a@h", 1, 1), pid("a@h", 1, 1, 0, 0), pid("", 1, 1, 0), pid("ah", 1, 1, 0), pid("a@h@h", 1, 1, 0), pid("a@h\xff", 1, 1, 0),
		{Kind: api.KPid, Text: "a@h", Creation: 1, Nums: []uint32{1, 0}, Int: 1}, {Kind: api.KPid, Text: "a@h", Creation: 1, Nums: []uint32{1, 0}, Args: sample.Ones(1)},
		{Kind: api.KPid, Text: "b@h", Creation: 1, Nums: []uint32{7, 0}, Args: []api.Term{{}}}, pid("b", 1, 7, 0), pid("b@h", 1, 7),
		ref("a@h", 1, 1, 0), ref("a@h", 1, 1, 0, 0, 0), ref("a", 1, 1, 0, 0), {Kind: api.KRef, Text: "a@h", Creation: 1, Nums: []uint32{1, 0, 0}, Int: 1},
		{Kind: api.KRef, Text: "a@h", Creation: 1, Nums: []uint32{1, 0, 0}, Args: sample.Ones(1)}, word("\xff"), {Kind: api.KAtom, Text: "x", Int: 1},
		num(api.MaxInt + 1), list(num(1)), tuple(api.Term{}), tuple(sample.Ones(api.MaxSize)...), sample.Chain(api.MaxDepth, num(1)),
	}
}

// otherTerms are terms that are neither pids nor references.
func otherTerms() []api.Term {
	return []api.Term{num(1), word("a@h"), word(""), tuple(), tuple(val("a1")), null(), list(val("a1"), null()), list(val("b7"), val("b7"))}
}

// noNodes are texts that are no nodes' names, noAtoms those that are no atoms'.
var (
	noNodes = []string{"", "a", "@", "a@", "@h", "b@", "b@h@h", "b h@h", "b@h\n", "é@h", "b@h\xff", "b@" + strings.Repeat("h", 63), strings.Repeat("b@h", 1<<15)}
	noAtoms = []string{"\xff", "a\xc3", "\xed\xa0\x80", strings.Repeat("x", 256), strings.Repeat("é", 128), strings.Repeat("x", 1<<17)}
)
