package compile_test

import (
	"fmt"
	"strings"
	"testing"

	"heddle/api"
)

// replaceOne puts a phrase where a text says #.
func replaceOne(around, phrase string) string { return strings.Replace(around, "#", phrase, 1) }

// P16.2: calls of functions of the module, of exported ones of this and of other modules, of ones that are not exported or not there.
func TestCalls(t *testing.T) {
	two := "-module(k). -export([g/1, f/0, h/0]). g(X) -> {k, X, p()}. p() -> q. f() -> m:f(). h() -> m:p(). -module(m). -export([f/0, h/1, g/2]). g(X, _) -> {m, X}. p() -> r. h(X) -> m:f(X). "
	holdAll(t, []trial{
		{"f() -> g(1). g(X) -> display(X).", "f()", "display(1) 2; end normal 2", nil},
		{"f() -> display({g(1), g(2, 3), g()}). g(X) -> {X}. g(X, Y) -> [X | Y]. g() -> h(). h() -> a.", "f()", "display({{1},[2|3],a}) 5; end normal 5", nil},
		{"f(X) -> g(X, []). g(0, L) -> display(L); g(N, L) -> g(N - 1, [N | L]).", "f(3)", "display([1,2,3]) 5; end normal 5", nil},
		{"f(X) -> display(g(X)). g(0) -> 1; g(N) -> N * g(N - 1).", "f(5)", "display(120) 7; end normal 7", nil},
		{"f() -> m:g(1). g(X) -> display(X).", "f()", "end undef 1", nil},
		{two + "f() -> display({k:g(1), m:g(2, 3)}).", "f()", "display({{k,1,q},{m,2}}) 4; end normal 4", nil},
		{two + "f() -> k:g(1).", "f()", "end normal 2", nil},
		{two + "f() -> k:p().", "f()", "end undef 1", nil}, {two + "f() -> {1, k:p(), display(1)}.", "f()", "end undef 1", nil}, {two + "f() -> k:g().", "f()", "end undef 1", nil}, {two + "f() -> k:g(1, 2).", "f()", "end undef 1", nil}, {two + "f() -> x:g(1).", "f()", "end undef 1", nil}, {two + "f() -> k:h().", "f()", "end undef 2", nil}, {two + "f() -> k:'G'(1).", "f()", "end undef 1", nil},
		{two + "f() -> try k:p() catch error:R -> display(R) end.", "f()", "display(undef) 2; end normal 2", nil}, {two + "f() -> display({a, try {b, k:h()} catch error:R -> R end}).", "f()", "display({a,undef}) 3; end normal 3", nil},
		{two + "f() -> display(1), k:g(display(2)), display(3).", "f()", "display(1) 1; display(2) 2; display(3) 5; end normal 5", nil},
		{two + "f() -> 1.", "p()", "end undef 0", nil}, {two + "f() -> 1.", "f(1)", "end undef 0", nil}, {two + "f() -> 1.", "x()", "end undef 0", nil}, {two + "f() -> 1.", "h(5)", "end undef 1", nil}, {two + "f() -> 1.", "g(1, 2)", "end normal 0", nil},
		{"f() -> hd([1]). hd(X) -> display(X).", "f()", "display([1]) 2; end normal 2", nil}, {"f() -> throw(1). throw(X) -> display(X).", "f()", "display(1) 2; end normal 2", nil}, {"f() -> erlang:throw(1). throw(X) -> display(X).", "f()", "end {nocatch,1} 0", nil}, {"f() -> display(1). display(X) -> erlang:display({X}).", "f()", "display({1}) 2; end normal 2", nil}, {"f() -> self(). self() -> display(1).", "f()", "display(1) 2; end normal 2", nil},
	})
	many := make([]string, api.MaxArgs)
	for i := range many {
		many[i] = fmt.Sprintf("X%d", i)
	}
	names := strings.Join(many, ", ")
	numbers := strings.Join(strings.Fields(strings.Repeat("1, ", api.MaxArgs-1)+"2"), " ")
	holdAll(t, []trial{
		{"f() -> g(" + numbers + "). g(" + names + ") -> display({X0, X253, X254}).", "f()", "display({1,1,2}) 2; end normal 2", nil},
		{"f() -> {a, g(" + numbers + "), display(b)}. g(" + names + ") -> display({X0, X253, X254}).", "f()", "display({1,1,2}) 2; display(b) 3; end normal 3", nil},
		{"-module(m). -export([f/0]). f() -> k:g(" + numbers + "). -module(k). -export([g/255]). g(" + names + ") -> display({X0, X253, X254}).", "f()", "display({1,1,2}) 2; end normal 2", nil},
	})
}

// feed is a plan by which each act brings a message.
type feed struct{ script }

func (f *feed) atAct(o *outside) (string, api.Term) {
	o.box.put(word("a"))
	return f.script.atAct(o)
}

// P16.2: behind a call behind which nothing is left to do no frame is left, however often it is done.
func TestLastCalls(t *testing.T) {
	for _, forms := range []string{
		"f(0) -> ok; f(N) -> f(N - 1).",
		"f(0) -> ok; f(N) -> a, b, begin c, f(N - 1) end.",
		"f(N) -> m:g(N). g(0) -> ok; g(N) -> m:f(N - 1).",
		"f(N) -> case N of 0 -> ok; 1 -> f(0); _ when N > 5 -> f(N - 1); _ -> begin f(N - 1) end end.",
		"f(N) when N > 0 -> receive a -> f(N - 1) after 0 -> f(N - 1) end; f(_) -> ok.",
		"f(N) when N > 0 -> self() ! a, receive a -> f(N - 1); b -> f(N) end; f(_) -> ok.",
		"f(N) -> N == 0 orelse f(N - 1).",
		"f(N) -> N > 0 andalso f(N - 1).",
		"f(N) -> N > 0 andalso (N == 0 orelse case N of _ -> f(N - 1) end).",
		"f(0) -> ok; f(N) -> try throw(N) catch X -> f(X - 1) end.",
		"f(0) -> ok; f(N) -> try throw(N) catch X when X == 1 -> f(0); X -> case X of Y -> m:f(Y - 1) end end.",
		"f(0) -> ok; f(N) -> try try throw(N) catch 0 -> ok end catch X -> f(X - 1) end.",
	} {
		c := made(t, "-module(m). -export([f/1, g/1]). "+forms+map[bool]string{true: "", false: " g(X) -> X."}[strings.Contains(forms, " g(")])
		const often = api.MaxFrames + 100
		o := &outside{plan: &feed{script{t, nil}}, most: 10 * often}
		if reason := byCode(c, "m", "f", []api.Term{num(often)})(o); show(reason) != "normal" || o.counted < often || o.deepest != 1 {
			t.Errorf("%s: %s, %d counted, %d frames", forms, show(reason), o.counted, o.deepest)
		}
	}
}

// P16.2: calls within a try are none of these: what they raise is caught, as often as it is done.
func TestCallsWithinTries(t *testing.T) {
	for _, forms := range []string{
		"f(0) -> throw(x); f(N) -> try f(N - 1) catch x -> throw(x) end.",
		"f(0) -> throw(x); f(N) -> try m:f(N - 1) catch x -> throw(x) end.",
		"f(0) -> throw(x); f(N) -> try case N of _ -> f(N - 1) end catch x -> throw(x) end.",
		"f(0) -> throw(x); f(N) -> try N > 0 andalso begin f(N - 1) end catch x -> throw(x) end.",
		"f(0) -> throw(x); f(N) -> try receive after 0 -> f(N - 1) end catch x -> throw(x) end.",
	} {
		for _, n := range []int{0, 1, 2, 50} {
			trial{forms, fmt.Sprintf("f(%d)", n), fmt.Sprintf("end {nocatch,x} %d", n), nil}.hold(t)
		}
	}
	holdAll(t, []trial{
		{"f() -> try g() catch X -> display(X) end. g() -> h(). h() -> throw(1).", "f()", "display(1) 3; end normal 3", nil},
		{"f() -> try g() catch X -> g() end. g() -> throw(1).", "f()", "end {nocatch,1} 2", nil},
		{"f() -> try try g() catch 2 -> a end catch 1 -> try g() catch 1 -> display(yes) end end. g() -> throw(1).", "f()", "display(yes) 3; end normal 3", nil},
		{"f() -> X = try g(1) catch _ -> a end, try g(X) catch Y -> display({X, Y}) end. g(1) -> b; g(X) -> throw(X).", "f()", "display({b,b}) 3; end normal 3", nil},
	})
}

// Chapter 18: a process that is called in a way that never ends is counted on and on.
func TestWithoutEnd(t *testing.T) {
	c := made(t, "-module(m). -export([f/0]). f() -> f().")
	o := &outside{plan: &script{t, nil}, most: 3 * api.MaxFrames}
	if got := watch(o, byCode(c, "m", "f", nil)); got != fmt.Sprintf("enough %d", 3*api.MaxFrames) {
		t.Error(got)
	}
}
