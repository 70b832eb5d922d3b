package code_test

import (
	"fmt"
	"math/rand"
	"slices"
	"strings"
	"testing"

	"heddle/api"
	"heddle/code"
	"heddle/sample"
)

// noLine: a text is refused at this line, with nothing beside it.
func noLine(t *testing.T, text string, line int) {
	t.Helper()
	c, err := code.Read(text)
	if !sample.SameCode(c, api.Code{}) || !sample.IsFault(err, fault(line, api.ErrLine)) {
		t.Errorf("Read(%q) = %v; want ErrLine at %d; it is\n%s", text, err, line, show(c))
	}
}

// reads: a text has the form, and is refused as Check does, or is the program.
func reads(t *testing.T, text string) {
	t.Helper()
	want, refused := modelRead(text)
	c, err := code.Read(text)
	if toldOf(err) != refused || !sample.SameCode(c, want) || err != nil && !sample.IsFault(err, fault(refused.at, refused.code)) {
		t.Errorf("Read(%q) = %v; want %v; it is\n%s", text, err, refused, show(c))
	}
}

// small is a text with each kind of line.
const small = "const 7\nconst {m,'A b'}\nmodule m\nexport 0 1\nfun f 1 2\n load 0\n is 0 4\n const 1\n return\n load 0\n branch 2 1\n tail 1\nfun 'G' 0 10\n remote 1 0\n return\nmodule n\nfun f 0 0\n jump 0\n"

// P15.5: each line's form with one sign left out, put in or changed, against the model.
func TestReadEdits(t *testing.T) {
	if _, err := code.Read(small); err != nil {
		t.Fatal(err)
	}
	signs := []string{" ", "\n", "0", "1", "9", "a", "e", "'", "-", "+", ",", "\t", "\r", "\x00", "é", "\xff", "A", "  ", "\n\n", "\\", "_", ".", "{"}
	for i := range len(small) + 1 {
		for _, sign := range signs {
			reads(t, small[:i]+sign+small[i:])
			reads(t, small[:i]+sign+small[min(i+1, len(small)):])
		}
		reads(t, small[:i]+small[min(i+1, len(small)):])
		reads(t, small[:i])
		reads(t, small[i:])
	}
}

// P15.5: lines out of their place, left out and put in, against the model.
func TestReadLines(t *testing.T) {
	lines := strings.SplitAfter(small, "\n")
	lines = lines[:len(lines)-1]
	for i := range lines {
		for k := range lines {
			swapped := slices.Clone(lines)
			swapped[i], swapped[k] = swapped[k], swapped[i]
			reads(t, strings.Join(swapped, ""))
			reads(t, strings.Join(slices.Insert(slices.Clone(lines), k, lines[i]), ""))
		}
		reads(t, strings.Join(slices.Delete(slices.Clone(lines), i, i+1), ""))
	}
	r := rand.New(rand.NewSource(1))
	for range 20000 {
		var some []string
		for range r.Intn(6) {
			some = append(some, lines[r.Intn(len(lines))])
		}
		reads(t, strings.Join(some, ""))
	}
}

// P15.5: lines that are out of their place.
func TestReadPlaces(t *testing.T) {
	for _, c := range []struct {
		text string
		line int
	}{
		{"export 0\n", 0}, {"fun f 0 0\n", 0}, {" pop\n", 0}, {"const 1\nexport 0\n", 1}, {"const 1\nfun f 0 0\n", 1}, {"const 1\n pop\n", 1},
		{"module m\nconst 1\n", 1}, {"module m\nexport 0\nconst 1\n", 2}, {"module m\nfun f 0 0\nconst 1\n", 2}, {"module m\nfun f 0 0\n jump 0\nconst 1\n", 3},
		{"module m\n pop\n", 1}, {"module m\nexport 0\n pop\n", 2}, {"module m\nexport 0\nexport 1\n", 2}, {"module m\nexport 0\nexport 0\n", 2}, {"module m\nfun f 0 0\nexport 0\n", 2}, {"module m\nfun f 0 0\n jump 0\nexport 0\n", 3},
		{"module m\nfun f 0 0\n jump 0\nmodule n\n jump 0\n", 4}, {"module m\nfun f 0 0\n jump 0\nmodule n\nexport 0\n jump 0\n", 5},
	} {
		noLine(t, c.text, c.line)
	}
	for _, text := range []string{
		"module m\nmodule n\n", "module m\nfun f 0 0\n jump 0\nmodule n\nexport 0\nfun f 0 0\n jump 0\n", "module m\nexport 0\nfun f 0 0\n jump 0\nfun g 0 0\n jump 0\n", "const 1\nconst 1\nmodule m\n",
	} {
		if _, err := code.Read(text); err != nil {
			t.Errorf("Read(%q): %v", text, err)
		}
	}
}

// P15.5: numbers are decimal digits without a zero ahead, nine of them at most.
func TestReadNumbers(t *testing.T) {
	places := []struct {
		text string
		line int
	}{
		{"module m\nexport @\n", 1}, {"module m\nexport 0 @\n", 1}, {"module m\nexport @ 0\n", 1}, {"module m\nfun f @ 0\n jump 0\n", 1}, {"module m\nfun f 0 @\n jump 0\n", 1},
		{"module m\nfun f 0 0\n jump @\n", 2}, {"module m\nfun f 0 0\n jump 0\n branch @ 0\n", 3}, {"module m\nfun f 0 0\n jump 0\n branch 0 @\n", 3}, {"module m\nfun f 0 0\n is @ 0\n", 2},
	}
	for _, p := range places {
		for _, n := range []string{"", " ", "00", "01", "007", "-1", "+1", "-0", "1234567890", "0000000001", "1000000000", "9999999999", "18446744073709551616", "1e1", "0x1", "1_0", "1.", "a", "１", "1 ", " 1", "1\t", "\x001"} {
			noLine(t, strings.ReplaceAll(p.text, "@", n), p.line)
		}
		for _, n := range []string{"0", "1", "9", "10", "65536", "123456789", "999999999", "100000000"} {
			text := strings.ReplaceAll(p.text, "@", n)
			if _, err := code.Read(text); toldOf(err).code == api.ErrLine {
				t.Errorf("Read(%q): %v", text, err)
			}
			reads(t, text)
		}
	}
}

// P15.5: constants and atoms stand as they would be written.
func TestReadWritten(t *testing.T) {
	for _, s := range []string{
		"", " 1", "1 ", "01", "-0", "+1", "{a, b}", "{a,b} ", "[1|[2]]", "[1|[]]", "[1,2|[]]", "'a'", "'abc'", `'\x0A'`, `'\x0a'`, `'A\x07b\x1F'`, `'\x41'`, "'end", "end", "A", "_", "\"a\"", "{a", "a}", "{a,}", "1,2", "1.", "[a|b|c]", "<n@h.1.5>", "<'n@h'.1.5.0>", "<n@h.01.5.0>", "<N@h.1.5.0>", "<nh.1.5.0>", "#Ref<n@h.1.1.2>", "576460752303423488", "-576460752303423489", "\xff", "'\xff'", "'" + strings.Repeat("X", 256) + "'", strings.Repeat("x", 256), "1\r", "\t1", "'a\tb'", "[ ]", "{ }",
		"{" + strings.Repeat("1,", 4095) + "1}", strings.Repeat("{", 257) + strings.Repeat("}", 257),
	} {
		noLine(t, "const 1\nconst "+s+"\nmodule m\n", 1)
	}
	for _, s := range []string{"0", "-1", "{a,b}", "[1,2]", "[1|2]", "[]", "{}", "a", "'A'", "''", "'end'", `'\n'`, `'\x07'`, "<n@h.1.5.0>", "<'N@h'.1.5.0>", "#Ref<n@h.1.1.2.3>", "576460752303423487", "-576460752303423488", "'é'", "'" + strings.Repeat("X", 255) + "'", "{" + strings.Repeat("1,", 4094) + "1}", strings.Repeat("{", 256) + strings.Repeat("}", 256)} {
		if c, err := code.Read("const 1\nconst " + s + "\n"); len(c.Consts) != 2 || err != nil {
			t.Errorf("Read of the constant %.100s: %v", s, err)
		}
	}
	for _, s := range []string{"", " m", "m ", "M", "'m'", "'abc'", "end", "m.", "m n", "7", "{m}", `'\x0A'`, `'\x41'`, `'\x1F'`, "'m", "m'", "_", "é", "\xff", "'\xff'", strings.Repeat("x", 256), "mé", "m\t", "'a\tb'", "'a''b'", "m'n'", "'M'n"} {
		noLine(t, "const 1\nmodule "+s+"\n", 1)
		noLine(t, "module m\nfun "+s+" 0 0\n jump 0\n", 1)
	}
	for _, s := range []string{"m", "'M'", "''", "'end'", `'\n'`, `'\x1f'`, "'m n'", "'a b 0 0'", `'it\'s'`, "'é'", strings.Repeat("x", 255), "m@1_B"} {
		if c, err := code.Read("module " + s + "\nfun " + s + " 0 0\n jump 0\n"); len(c.Mods) != 1 || len(c.Mods[0].Funs) != 1 || err != nil {
			t.Errorf("Read of the atom %s: %v", s, err)
		}
	}
}

// P15.5: lines that are of no form at all.
func TestReadNoForms(t *testing.T) {
	for _, line := range []string{
		"", " ", "  ", "x", "const", "const ", "module", "module ", "export", "export ", "fun", "fun ", "fun f", "fun f ", "fun f 0", "fun f 0 ", "fun f 0 0 ", "fun f 0 0 0", "fun f  0 0", "fun f 0  0", "fun  f 0 0", "fun f 0,0", "fun 0 0", "Module m", "module  m", "modulem", "exports 0", "export  0", "export 0  1", "export 0 1 ", "export 0,1", "export a", "constant 1", " const", " const ", " const 0 ", " const 0 0", " const  0", "  const 0", " const a", "\tpop", "pop", "pop ", " pop ", " pop 0", " Pop", " POP", " po", " popp", " cpop", " 4", " CPop",
		" load", " store 0 0", " dup 0", " tuple", " list", " bif", " call", " tail", " remote 0", " remote 0 0 0", " leave 0", " return 0", " jump", " jump 0 0", " branch 0", " branch 0 0 0", " is 0", " parts 0", " cons", " cons 0 0", " same", " raise", " try", " guard", " done 0", " send 0", " send 0 0", " act", " peek", " next", " take 0", " wait", " nothing", " module m", " fun f 0 0", "% pop", " pop % all", "\x00", "\xff", " \xff", "const 1\r", " pop\r",
	} {
		noLine(t, "module m\nfun f 0 0\n jump 0\n"+line+"\n", 3)
		if line != "" {
			noLine(t, "module m\nfun f 0 0\n jump 0\n"+line, 3)
		}
	}
	for _, w := range each() {
		text := "module m\nfun f 0 0\n" + w.line
		if _, err := code.Read(text); toldOf(err).code == api.ErrLine {
			t.Errorf("Read(%q): %v", text, err)
		}
		noLine(t, strings.TrimSuffix(text, "\n"), 2)
	}
}

// P15.5: the first line that is wrong is told, also ahead of programs that are not well formed; one without a byte 10 is wrong.
func TestReadFirstLine(t *testing.T) {
	if c, err := code.Read(""); !sample.SameCode(c, api.Code{}) || err != nil {
		t.Errorf("Read of nothing: %v", err)
	}
	for _, c := range []struct {
		text string
		line int
	}{
		{"\n", 0}, {"\n\n", 0}, {"\nmodule m\n", 0}, {"module m\n\n", 1}, {"module m\n\nx\n", 1}, {"x\ny\n", 0}, {"module m\nx\ny\n", 1}, {"module m\ny\nx", 1}, {"module m", 0}, {"module m\nmodule n", 1}, {"const 1", 0}, {"const 1\nconst 2", 1}, {"module m\nfun f 0 0\n jump 0", 2}, {"module m\nfun f 0 0\n jump 0\n ", 3},
		{"module m\nmodule m\nx\n", 2}, {"module m\nfun f 0 0\nfun g 1 0\n pop\nx\n", 4}, {"module m\nexport 7\nfun f 0 0\n pop 0\n", 3}, {strings.Repeat("const 1\n", 65537) + "x", 65537}, {strings.Repeat("const 1\n", 65537) + "const 1", 65537}, {strings.Repeat("module m\n", 70) + "y\n", 70},
		{"x", 0}, {"module m\n\x00", 1}, {strings.Repeat("module m\n", 100000) + "module M\n", 100000},
	} {
		noLine(t, c.text, c.line)
	}
	most, err := code.Print(wide(api.MaxImage))
	if err != nil {
		t.Fatal(err)
	}
	lines := strings.Count(most, "\n")
	noLine(t, most[:len(most)-1], lines-1)
	noLine(t, most[:len(most)-1]+"x", lines-1)
	noLine(t, most[:len(most)-1]+" ", lines-1)
}

// P15.5: programs that have the form and are not well formed: Check's fault, not under another one.
func TestReadNotWellFormed(t *testing.T) {
	for _, c := range []struct {
		text string
		code api.Errno
		at   int
	}{
		{"module m\nfun f 0 0\n", api.ErrFlow, 0}, {"module m\nfun f 0 0\nfun g 0 0\n", api.ErrFlow, 0}, {"module m\nfun f 0 0\n jump 0\nfun g 0 0\n", api.ErrFlow, 1}, {"module m\nfun f 0 0\n pop\n", api.ErrFlow, 0}, {"const 1\nmodule m\nfun f 0 0\n const 0\n", api.ErrFlow, 0},
		{"module m\nfun f 0 1\n load 0\n return\n", api.ErrUnset, 0}, {"module m\nfun f 0 0\n jump 0\n load 0\n", api.ErrCode, 1}, {"module m\nfun f 1 0\n jump 0\n", api.ErrCode, 0}, {"module m\nfun f 256 256\n jump 0\n", api.ErrCode, 0}, {"module m\nfun f 0 1025\n jump 0\n", api.ErrCode, 0}, {"module m\nfun f 0 0\n jump 1\n", api.ErrCode, 0}, {"module m\nfun f 0 0\n jump 999999999\n", api.ErrCode, 0},
		{"module m\nexport 0\n", api.ErrCode, 0}, {"module m\nexport 1 0\nfun f 0 0\n jump 0\nfun g 0 0\n jump 0\n", api.ErrCode, 0}, {"module m\nexport 0 0\nfun f 0 0\n jump 0\n", api.ErrCode, 0}, {"module m\nfun f 0 0\n jump 0\nmodule m\n", api.ErrTwice, 1}, {"module m\nfun f 0 0\n jump 0\nfun f 0 1\n jump 0\n", api.ErrTwice, 1},
		{"module m\nfun f 0 0\n list 0\n", api.ErrCode, 0}, {"module m\nfun f 0 0\n tuple 4097\n", api.ErrCode, 0}, {"const {a}\nmodule m\nfun f 0 0\n leave 0 0\n", api.ErrCode, 0}, {"module m\nfun f 0 0\n jump 0\n raise 3\n", api.ErrCode, 1}, {"module m\nfun f 0 0\n branch 0 2\n", api.ErrCode, 0},
		{strings.Repeat("const 1\n", 65537), api.ErrMany, 0}, {"module m\nfun f 0 0\n" + strings.Repeat(" take\n", 65537), api.ErrMany, 0},
	} {
		got, err := code.Read(c.text)
		if !sample.SameCode(got, api.Code{}) || !sample.IsFault(err, fault(c.at, c.code)) {
			t.Errorf("Read(%.200q): %v; want %v at %d", c.text, err, c.code, c.at)
		}
	}
	var mods, funs strings.Builder
	funs.WriteString("module m\n")
	for i := range 1025 {
		fmt.Fprintf(&funs, "fun f%d 0 0\n jump 0\n", i)
		if i < 65 {
			fmt.Fprintf(&mods, "module m%d\n", i)
		}
	}
	for _, text := range []string{mods.String(), funs.String()} {
		if got, err := code.Read(text); !sample.SameCode(got, api.Code{}) || !sample.IsFault(err, fault(0, api.ErrMany)) {
			t.Errorf("Read(%.100q): %v", text, err)
		}
	}
}

func FuzzRead(f *testing.F) {
	f.Add(small)
	f.Add("")
	f.Add("module m\n")
	for seed := range int64(10) {
		m := &maker{r: rand.New(rand.NewSource(seed))}
		s, err := code.Print(m.program())
		if err != nil {
			f.Fatal(err)
		}
		f.Add(s)
	}
	f.Fuzz(func(t *testing.T, s string) {
		reads(t, s)
		if c, err := code.Read(s); err == nil {
			if again, err := code.Print(c); again != s || err != nil {
				t.Errorf("Print of Read(%q) = %q, %v", s, again, err)
			}
		}
	})
}
