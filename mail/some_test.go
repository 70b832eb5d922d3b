package mail_test

import (
	"math"
	"slices"
	"testing"

	"heddle/api"
	"heddle/mail"
	"heddle/sample"
	"heddle/term"
)

var (
	num, word, ref, pid = sample.Int, sample.Atom, sample.Ref, sample.Pid
	tuple, list, null   = sample.Tuple, sample.List, sample.Nil
)

// view is all that is to be seen of a box.
type view struct {
	messages []api.Term
	cursor   int
	deadline int
	set      bool
}

func same(a, b []api.Term) bool { return slices.EqualFunc(a, b, sample.Same) }

// look asks a box all that it tells, twice: to ask changes nothing.
func look(t testing.TB, b *mail.Box) view {
	t.Helper()
	v := view{messages: b.All(), cursor: b.Cursor()}
	v.deadline, v.set = b.Deadline()
	if n := b.Len(); n != len(v.messages) {
		t.Fatalf("Len() = %d, but there are %d messages", n, len(v.messages))
	}
	if deadline, set := b.Deadline(); !same(b.All(), v.messages) || b.Cursor() != v.cursor || deadline != v.deadline || set != v.set {
		t.Fatal("to ask a box changes it")
	}
	for range 2 {
		message, ok := b.Peek()
		want := v.at()
		if !sample.Same(message, want) || ok != (want.Kind != 0) {
			t.Fatalf("Peek() = %v, %t, want %v of %v at %d", message, ok, want, short(v.messages), v.cursor)
		}
	}
	return v
}

// at is the message at the cursor; zero, if there is none.
func (v view) at() api.Term {
	if v.cursor < len(v.messages) {
		return v.messages[v.cursor]
	}
	return api.Term{}
}

func (v view) equal(w view) bool {
	return same(v.messages, w.messages) && v.cursor == w.cursor && v.deadline == w.deadline && v.set == w.set
}

// short keeps what a test tells of many messages short.
func short(messages []api.Term) []string {
	var texts []string
	for _, x := range messages {
		text, err := term.Print(x)
		if err != nil {
			text = err.Error()
		}
		texts = append(texts, text[:min(len(text), 40)])
		if len(texts) == 12 {
			return append(texts, "..")
		}
	}
	return texts
}

// shows: that, and nothing else, is to be seen of the box.
func shows(t testing.TB, what string, b *mail.Box, want view) {
	t.Helper()
	if v := look(t, b); !v.equal(want) {
		t.Fatalf("%s: %v, cursor %d, deadline %d %t, want %v, cursor %d, deadline %d %t",
			what, short(v.messages), v.cursor, v.deadline, v.set, short(want.messages), want.cursor, want.deadline, want.set)
	}
}

// open is a box with those messages, its cursor behind so many of them.
func open(t testing.TB, cursor int, messages ...api.Term) *mail.Box {
	t.Helper()
	b := mail.New()
	for _, x := range messages {
		done(t, "Put", b.Put(x))
	}
	for range cursor {
		done(t, "Next", b.Next())
	}
	return b
}

// timed sets a deadline, which lies from 1 to twice the clock's greatest time; 0 sets none.
func timed(t testing.TB, b *mail.Box, deadline int) *mail.Box {
	t.Helper()
	if deadline == 0 {
		return b
	}
	from := max(0, deadline-api.MaxClock)
	if ok, err := b.Wait(from, num(int64(deadline-from))); !ok || err != nil {
		t.Fatalf("Wait(%d, %d) = %t, %v", from, deadline-from, ok, err)
	}
	if d, ok := b.Deadline(); d != deadline || !ok {
		t.Fatalf("Deadline() = %d, %t, want %d", d, ok, deadline)
	}
	return b
}

func done(t testing.TB, what string, err error) {
	t.Helper()
	if err != nil {
		t.Fatalf("%s: %v", what, err)
	}
}

// refused: the error is the fault of this layer with that number, at 0, with nothing under.
func refused(t testing.TB, what string, err error, code api.Errno) {
	t.Helper()
	if !sample.IsFault(err, api.Fault{Layer: "mail", Code: code}) {
		t.Fatalf("%s: %v, want errno %d of layer mail at 0", what, err, code)
	}
}

// takes: the message at the cursor is that one, and is taken.
func takes(t testing.TB, b *mail.Box, want api.Term) {
	t.Helper()
	if x, err := b.Take(); err != nil || !sample.Same(x, want) {
		t.Fatalf("Take() = %v, %v, want %v", x, err, want)
	}
}

// row is the ints from one to another one, the last among them.
func row(from, to int) []api.Term {
	var ints []api.Term
	for n := from; n <= to; n++ {
		ints = append(ints, num(int64(n)))
	}
	return ints
}

// kinds are terms of all kinds, among them the greatest and the deepest.
func kinds() []api.Term {
	return []api.Term{
		num(0), num(api.MinInt), num(api.MaxInt), word("a"), word(""), word("infinity"), null(), tuple(),
		ref("n@h", 0, 0, 0, 0), ref("n@h", math.MaxUint32, 1, 2, math.MaxUint32), pid("n@h", 3, 5, 0),
		tuple(num(1), tuple(pid("n@h", 1, 2, 3)), list(word("x"), tuple(num(2)), null())), list(num(1), num(2)), list(ref("m@h", 1, 1, 2, 3), null()),
		tuple(sample.Ones(api.MaxSize - 1)...), sample.Chain(api.MaxDepth-1, num(1)),
	}
}

// wrongTerms are values that are no terms, one that holds itself among them.
func wrongTerms() []sample.NoTerm {
	itself := sample.NoTerm{Value: sample.Itself(), Chain: []api.Fault{{Layer: "term", At: api.MaxDepth, Code: api.ErrDeep}}}
	return append(sample.NoTerms(), itself)
}

// noClocks are what now may not be, clocks what it may: the edges of both.
var (
	noClocks = []int{math.MinInt, -api.MaxClock, -1, api.MaxClock + 1, math.MaxInt}
	clocks   = []int{0, 1, 10, 1000, api.MaxClock - 1, api.MaxClock}
)

// spans are times to wait that end, 0 not among them.
func spans() []api.Term {
	return []api.Term{num(1), num(5), num(1000), num(api.MaxClock - 1), num(api.MaxClock), {Kind: api.KInt, Int: 7, Nums: []uint32{}, Args: []api.Term{}}}
}

// naughts and endless are the int 0 and the atom infinity, with lists that are nil and lists that are empty.
func naughts() []api.Term {
	return []api.Term{num(0), {Kind: api.KInt, Nums: []uint32{}, Args: []api.Term{}}}
}

func endless() []api.Term {
	return []api.Term{word("infinity"), {Kind: api.KAtom, Text: "infinity", Nums: []uint32{}, Args: []api.Term{}}}
}

// noTimes are what is no time to wait: terms of all kinds, and values that would be a time but for a field that their Kind does not name.
func noTimes() []api.Term {
	all := []api.Term{
		num(-1), num(-api.MaxClock), num(api.MinInt), num(api.MinInt - 1), num(math.MinInt64),
		num(api.MaxClock + 1), num(api.MaxInt), num(api.MaxInt + 1), num(math.MaxInt64), num(1 << 42),
		word("foo"), word(""), word("Infinity"), word("infinit"), word("infinity "), word("infinity0"), word("0"), word("undefined"), word("\xff"), word(string(make([]byte, 300))),
		tuple(), tuple(num(5)), tuple(word("infinity")), null(), list(num(5), null()), list(word("infinity"), null()),
		pid("n@h", 1, 5, 0), ref("n@h", 1, 5, 0, 0), sample.Chain(api.MaxDepth+5, num(1)), sample.Itself(), {},
	}
	for _, kind := range []api.Kind{-1, 0, api.KRef, api.KPid, api.KTuple, api.KNil, api.KList, 8} {
		all = append(all, api.Term{Kind: kind, Int: 5}, api.Term{Kind: kind, Text: "infinity"}, api.Term{Kind: kind, Int: 5, Text: "infinity"})
	}
	for _, x := range []api.Term{num(0), num(5), num(-1), num(api.MaxClock), word("infinity")} {
		for _, spoil := range []func(x *api.Term){
			func(x *api.Term) { x.Creation = 1 },
			func(x *api.Term) { x.Nums = make([]uint32, 1) },
			func(x *api.Term) { x.Args = make([]api.Term, 1) },
			func(x *api.Term) { x.Args = []api.Term{num(5), null()} },
		} {
			y := x
			spoil(&y)
			all = append(all, y)
		}
	}
	return append(all,
		api.Term{Kind: api.KInt, Int: 5, Text: "x"}, api.Term{Kind: api.KInt, Text: "infinity"}, api.Term{Kind: api.KInt, Int: 5, Text: "infinity"}, api.Term{Kind: api.KInt, Int: -1, Text: "infinity"},
		api.Term{Kind: api.KAtom, Text: "infinity", Int: 5}, api.Term{Kind: api.KAtom, Text: "infinity", Int: -1}, api.Term{Kind: api.KAtom, Int: 5})
}
