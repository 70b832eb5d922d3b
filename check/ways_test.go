package check_test

import (
	"math/rand"
	"strconv"
	"strings"
	"testing"

	"heddle/api"
)

// stand is how the name X stands behind a phrase ahead of which it is unbound.
type stand int

const (
	unbound stand = iota
	bound
	unsafe
)

// read and held are how X is told where it is read, and where it stands in a pattern.
func (s stand) read() api.Errno {
	return []api.Errno{unbound: api.ErrUnbound, bound: api.OK, unsafe: api.ErrUnsafe}[s]
}

func (s stand) held() api.Errno {
	return []api.Errno{unbound: api.OK, bound: api.OK, unsafe: api.ErrUnsafe}[s]
}

// source is a phrase and what it does to X.
type source struct {
	text string
	does stand
}

// leaves are phrases without ways, V being bound.
var leaves = []source{
	{"1", unbound}, {"V", unbound}, {"_ = V", unbound}, {"{Y, _} = V", unbound},
	{"X = 1", bound}, {"{1, X} = V", bound}, {"[_ | X] = V", bound}, {"Z = X = V", bound}, {"(X = 1) = V", bound}, {"(1 = X) = V", bound}, {"X = X = 1", bound},
}

// shape is a phrase with holes: what it does to X, by what the phrases there do.
type shape struct {
	text string
	does func(holes []stand) stand
}

// all: X stands so behind each of them, or it is unsafe.
func all(holes []stand) stand {
	for _, s := range holes {
		if s != holes[0] {
			return unsafe
		}
	}
	return holes[0]
}

// none: what is bound in any of them is unsafe.
func none(holes []stand) stand { return all(append([]stand{unbound}, holes...)) }

// shapes have each of the ways, with each part of it as a hole; the phrases in two holes are never gone over one behind the other.
var shapes = []shape{
	{"begin ? end", all}, {"begin 1, ?, 2 end", all}, {"{1, ?, 2}", all}, {"[?]", all}, {"[1, ? | 2]", all}, {"[1 | ?]", all}, {"- ?", all}, {"? + 1", all}, {"1 == ?", all}, {"? ! 1", all}, {"1 ! ?", all}, {"f(?)", all}, {"k:g(1, ?)", all}, {"_ = ?", all}, {"1 = ?", all},
	{"case ? of 1 -> 2 end", all}, {"case ? of 1 -> 2; 3 -> 4 end", all}, {"case 1 of 2 -> ? end", all}, {"case 1 of 2 when 3 -> ?; 4 -> ? end", all}, {"case 1 of 2 -> ?; 3 -> 1, ?; 4 when 5 -> ?, 1 end", all}, {"case 1 of 2 -> ?; 3 -> 4 end", none}, {"case 1 of 2 -> 3; 4 -> ? end", none}, {"case 1 of 2 -> 3; 4 -> ?; 5 -> 6 end", none},
	{"receive 1 -> ? end", all}, {"receive 1 -> ?; 2 -> ? end", all}, {"receive 1 -> ? after 2 -> ? end", all}, {"receive 1 -> ?; 2 -> ? after 3 -> ? end", all}, {"receive after 1 -> ? end", all}, {"receive after ? -> 1 end", all}, {"receive 1 -> ? after ? -> 1 end", all}, {"receive 1 -> 2 after 3 -> ? end", none}, {"receive 1 -> 2 after ? -> 3 end", none}, {"receive 1 -> ? after 3 -> 4 end", none}, {"receive 1 -> ?; 2 -> 3 end", none},
	{"? andalso 1", all}, {"? orelse 1", all}, {"1 andalso ?", none}, {"1 orelse ?", none}, {"1 andalso 2 orelse ?", none}, {"? andalso 1 orelse 2", all},
	{"try ? catch 1 -> 2 end", none}, {"try 1 catch 2 -> ? end", none}, {"try 1 catch 2 -> ?; error:3 when 4 -> ? end", none}, {"try 1 catch 2 -> 3; _:4 -> 5, ? end", none}, {"try 1, ?, 2 catch exit:1 -> 2; _:3 -> 4 end", none},
}

// fill puts phrases into the holes of a shape.
func (s shape) fill(choose func() source) source {
	text, rest, more := strings.Cut(s.text, "?")
	var holes []stand
	for more {
		inner := choose()
		holes = append(holes, inner.does)
		var next string
		next, rest, more = strings.Cut(rest, "?")
		text += "(" + inner.text + ")" + next
	}
	return source{text, s.does(holes)}
}

// behind holds how X stands behind a phrase: where it is read, in guards and in patterns too; and that it may be bound again on another way.
func behind(t *testing.T, s source) {
	t.Helper()
	read, held := s.does.read(), s.does.held()
	mark := func(code api.Errno) string {
		if code == api.OK {
			return "X"
		}
		return "^X"
	}
	body(t, read, s.text+", "+mark(read))
	body(t, read, "{"+s.text+", [1, "+mark(read)+"]}")
	body(t, read, s.text+", case 1 of 2 when 3; 4, "+mark(read)+" -> 5 end")
	body(t, held, s.text+", "+mark(held)+" = 1")
	body(t, held, s.text+", receive {1, "+mark(held)+"} -> X end")
	// Though X has a slot ahead of one that is bound.
	body(t, read, "case V of 1 -> {X, W} = V; 2 -> W = 1, "+s.text+", "+mark(read)+" end")
	body(t, held, "case V of 1 -> {X, W} = V; 2 -> W = 1, "+s.text+", "+mark(held)+" = W, {X, W} end")
	body(t, api.OK, "case V of 1 -> "+s.text+"; 2 -> X = 1, X end")
	body(t, api.OK, "X = 1, "+s.text+", X")
	forms(t, api.OK, "h(V, X) when X -> "+s.text+", X = X; h(V, _) -> "+s.text+". f(_) -> 1.")
}

// P12.1: how a name stands behind each of the ways, by how it stands behind its parts.
func TestCheckBehind(t *testing.T) {
	for _, s := range leaves {
		behind(t, s)
	}
	unsafeX := source{"case V of 1 -> X = 1; _ -> 2 end", unsafe}
	for _, s := range shapes {
		// Each hole with each of three, all together: the holes count in threes.
		holes := strings.Count(s.text, "?")
		for n := range pow(3, holes) {
			behind(t, s.fill(func() source {
				chosen := []source{leaves[0], leaves[4], unsafeX}[n%3]
				n /= 3
				return chosen
			}))
		}
	}
}

func pow(base, n int) int {
	all := 1
	for range n {
		all *= base
	}
	return all
}

// P12.1: the ways within one another.
func TestCheckBehindNested(t *testing.T) {
	r := rand.New(rand.NewSource(12))
	var some func(depth int) source
	some = func(depth int) source {
		if depth == 0 || r.Intn(8) == 0 {
			return leaves[r.Intn(len(leaves))]
		}
		return shapes[r.Intn(len(shapes))].fill(func() source { return some(depth - 1) })
	}
	met := map[stand]int{}
	for n := range 3000 {
		s := some(2 + n%3)
		// Y and Z are bound on the way, and may then be unsafe: each place has its own.
		for i := range strings.Count(s.text, "Y") {
			s.text = strings.Replace(s.text, "Y", "A"+strconv.Itoa(i), 1)
		}
		for i := range strings.Count(s.text, "Z") {
			s.text = strings.Replace(s.text, "Z", "B"+strconv.Itoa(i), 1)
		}
		met[s.does]++
		behind(t, s)
	}
	if met[unbound] < 300 || met[bound] < 300 || met[unsafe] < 300 {
		t.Errorf("unbound %d, bound %d, unsafe %d", met[unbound], met[bound], met[unsafe])
	}
}

// P12.1: where names are bound, unbound and unsafe within the ways.
func TestCheckWithin(t *testing.T) {
	for _, s := range []string{
		"X = V, X", "{X = 1, X}", "[X = 1, X | X]", "X = 1, X = 2", "k:g(X = 1, X)", "(X = 1) + X", "(X = 1) ! X", "X = begin Y = 1, Y end, {X, Y}", "{X, X} = V", "[X | X] = V", "{X, Y} = {Y, X} = V", "X = 1, {X, Y} = {X, V}",
		"case X = V of X -> X end, X", "case V of X -> X end", "case V of X when X -> X; {X} when X -> X; _ -> 1 end", "case V of X -> 1 end, X", "case V of {X, Y} -> X; Y -> X = Y end, {X, Y}", "case V of 1 -> 2 end, X = 1, X", "case V of 1 -> X = 1; 2 -> X = 2 end, case X of 3 -> X end",
		"receive X -> X end, X", "receive X when X -> X; {X} -> X end, X", "receive X -> X after 1 -> X = 2, X end, X", "receive after X = 1 -> X end, X", "receive X -> 1 after X = 2 -> X end, X", "receive {X, V} -> X end",
		"(X = V) andalso X", "(X = V) orelse X, X", "V andalso begin X = 1, X end", "V orelse begin X = 1, X end, Y = 1", "(V andalso begin X = 1, X end) orelse 1", "V andalso case X = 1 of X -> X end",
		"try X = 1, X catch _:_ -> 1 end", "try 1 catch X -> X; error:X when X -> X; _:{X} -> X = 1 end", "X = 1, try X catch X -> X; _:Y -> {X, Y} end, X", "try V catch V when V -> V end", "try 1 catch X -> try X catch Y -> {X, Y} end end", "try begin X = 1, try X catch Y -> {X, Y} end, X end catch Z -> Z end",
		"case V of 1 -> case V of 2 -> X = 1; 3 -> X = 2 end, X; 4 -> X = 3 end, X", "case V of 1 -> receive X -> X end; X -> X end, X", "case V of 1 -> X = 1; 2 -> Y = 1 end, 3", "try case V of X -> X end catch Y -> Y end",
	} {
		body(t, api.OK, s)
	}
	for _, s := range []string{
		"^X", "{^X}", "{^X, X = 1}", "[1 | ^X]", "^X + 1", "1 + ^X", "- ^X", "^X ! V", "V ! ^X", "f(^X)", "k:g(1, ^X)", "begin ^X end", "X = ^X", "X = {1, ^X}", "{X, 1} = {^X, 1}", "X = 1 + ^X", "Y = X = ^Y", "{1, ^X, X = 1}", "Y = ^X, X = 1",
		"case ^X of X -> 1 end", "case V of 1 when ^X -> X end", "case V of 1 -> ^X end", "case V of X -> 1; _ -> ^X end", "case V of X -> 1; _ when ^X -> 2 end", "case V of 1 -> X = 1; 2 -> ^X end", "case V of 1 -> 2; 3 -> 4 end, ^X", "case V of 1 -> ^X; X -> 2 end", "case V of X when ^Y -> Y = 1 end",
		"receive 1 -> ^X end", "receive 1 when ^X -> 2 end", "receive X -> 1; _ -> ^X end", "receive X -> 1 after ^X -> 2 end", "receive X -> 1 after 2 -> ^X end", "receive after ^X -> X end", "receive 1 -> ^X after X = 2 -> X end", "receive after 1 -> 2 end, ^X",
		"^X andalso (X = 1)", "V andalso ^X", "V orelse ^X", "(V andalso V), ^X", "try ^X catch X -> X end", "try 1 catch 2 -> ^X end", "try 1 catch X -> 2; 3 -> ^X end", "try 1 catch 2 when ^X -> 3 end", "try 1 catch 2 -> 3 end, ^X",
		"case V of 1 -> case V of 2 -> X = 1; 3 -> ^X end; X -> 1 end",
	} {
		body(t, api.ErrUnbound, s)
	}
	for _, s := range []string{
		"try X = 1 catch _:_ -> ^X end", "try X = 1 catch ^X -> 1 end", "try X = 1 catch error:{1, ^X} -> 1 end", "try X = 1 catch 1 when ^X -> 1 end", "try X = 1 catch 1 -> ^X = 2 end", "try X = 1 catch 1 -> case 2 of ^X -> 3 end end", "try X = 1, 2 catch 1 -> 2; 3 -> ^X end", "try {X, Y} = V catch 1 -> ^Y end",
		"try V andalso (X = 1) catch 1 -> ^X end", "try case V of 1 -> X = 1; 2 -> 3 end catch ^X -> 1 end", "try case V of X -> 1 end catch ^X -> 1 end", "try 1 catch X -> X end, ^X", "try 1 catch X -> X end, try 1 catch ^X -> X end", "try 1 catch X -> X; _:X -> X end, ^X = 1", "try X = 1 catch _:_ -> 2 end, ^X", "try X = 1 catch _:_ -> 2 end, ^X = 1",
		"V andalso (X = 1), ^X", "(V orelse (X = 1)) andalso ^X", "V andalso V andalso (X = 1), ^X", "{V andalso (X = 1), ^X}", "V andalso (X = 1), ^X = 2", "V andalso (X = 1), case V of ^X -> 1 end", "V andalso (X = 1), V orelse (^X = 2)", "V andalso (X = 1), case V of 1 -> ^X = 1; 2 -> X = 1 end", "V andalso (X = 1), try ^X catch X -> 1 end",
		"V andalso (X = 1), try 1 catch ^X -> 1 end", "V andalso (X = 1), receive 1 -> 2 after ^X -> 3 end", "V andalso (X = 1), case 1 of 2 when ^X -> 3 end", "case V of 1 -> X = 1; _ -> 3 end, ^X", "case V of 1 -> X = 1; _ -> 3 end, {1, ^X} = V", "case V of X -> 1; _ -> 3 end, ^X", "receive X -> 1 after 2 -> 3 end, ^X", "receive 1 -> 2 after X = 3 -> X end, ^X",
		"case V of 1 -> V andalso (X = 1); 2 -> X = 1 end, ^X", "case V of 1 -> V andalso (X = 1); 2 -> V andalso (X = 1) end, ^X", "case V andalso (X = 1) of 2 -> ^X end", "case V of 1 -> V andalso (X = 1), ^X; 2 -> X = 1 end",
	} {
		body(t, api.ErrUnsafe, s)
	}
}

// P12.1: _ is any in patterns, however often, and is never bound; names that begin with it are names.
func TestCheckAny(t *testing.T) {
	knows(t, "f(_, _, {_, [_ | _]}) -> _ = 1.", "_ _ _ _ _ _")
	knows(t, "f(_) -> case 1 of _ -> receive _ -> try 1 catch _:_ -> 2 end end end.", "_ _ _ _")
	knows(t, "f(_A, _A, __) -> {_A, __}.", "_A=0 _A?0 __=1 _A.0 __.1")
	for _, s := range []string{"^_", "{^_}", "_ = ^_", "^_ + 1", "f(^_)", "V ! ^_", "case ^_ of _ -> 1 end", "case 1 of _ -> ^_ end", "case 1 of _ when ^_ -> 1 end", "_ = 1, ^_", "receive _ -> 1 after ^_ -> 2 end", "try 1 catch _:_ -> ^_ end", "try _ = 1 catch _:_ -> ^_ end", "case V of 1 -> _ = 1; 2 -> _ = 2 end, ^_", "V andalso (_ = 1), ^_"} {
		body(t, api.ErrUnbound, s)
	}
}
