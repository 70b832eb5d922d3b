package code_test

import (
	"errors"
	"fmt"
	"regexp"
	"slices"
	"strings"

	"heddle/api"
	"heddle/atom"
	"heddle/bif"
	"heddle/term"
)

// chapter is the instructions told once more: what A and B of each are, how many terms it takes away and puts, and where it may go on.
var chapter = rows(`
const  constant - 0     1 next
load   local    - 0     1 next
store  local    - 1     0 next
pop    -        - 1     0 next
dup    -        - 1     2 next
tuple  size     - A     1 next
list   some     - A+1   1 next
bif    bif      - bif   1 next
call   fun      - fun   1 next
tail   fun      - fun   1 end
remote pair  args B     1 next
leave  pair  args B     1 end
return -        - 1     0 end
jump   insn     - 0     0 A
branch insn   two 1     0 next,A
is     constant insn 1  0 next,B
parts  size  insn 1     A next,B
cons   insn     - 1     2 next,A
same   insn     - 2     0 next,A
raise  three    - 1     0 end
try    insn     - 0     0 next,A
guard  insn     - 0     0 next,A
done   -        - 0     0 next
send   -        - 2     1 next
act    act      - act   1 next
peek   insn     - 0     1 next,A
next   insn     - 0     0 A
take   -        - 0     0 next
wait   insn     - 1     0 next,A
`)

var bifs = bif.All()

// row is an instruction as the chapter tells it.
type row struct{ name, a, b, takes, puts, ways string }

func rows(text string) []row {
	var all []row
	for line := range strings.SplitSeq(strings.TrimSpace(text), "\n") {
		w := strings.Fields(line)
		all = append(all, row{w[0], w[1], w[2], w[3], w[4], w[5]})
	}
	return all
}

// told is a fault by its number and place; zero of none.
type told struct {
	code api.Errno
	at   int
}

// model is a program, gone through as the chapter says, word by word.
type model struct {
	c      api.Code
	m      api.Mod
	f      api.Fun
	start  int
	height int // the greatest one of the last function
}

func modelCheck(c api.Code) told {
	if len(c.Mods) > 64 || len(c.Consts) > 65536 {
		return told{api.ErrMany, 0}
	}
	for i, t := range c.Consts {
		var f *api.Fault
		if errors.As(term.Check(t), &f) {
			return told{f.Code, i}
		}
	}
	for _, step := range []func(md *model, earlier []api.Fun) told{(*model).forms, (*model).states, (*model).locals} {
		md := &model{c: c}
		for k, m := range c.Mods {
			md.m = m
			// Modules have no fault any more when their forms are gone through.
			if code := md.module(c.Mods[:k]); code != 0 {
				return told{code, md.start}
			}
			for n, f := range m.Funs {
				md.f = f
				if fault := step(md, m.Funs[:n]); fault != (told{}) {
					return told{fault.code, md.start + fault.at}
				}
				md.start += len(f.Code)
			}
		}
	}
	return told{}
}

func (md *model) module(earlier []api.Mod) api.Errno {
	if !atom.Valid(md.m.Name) {
		return api.ErrCode
	}
	for _, e := range earlier {
		if e.Name == md.m.Name {
			return api.ErrTwice
		}
	}
	if len(md.m.Funs) > 1024 {
		return api.ErrMany
	}
	sorted := slices.Compact(slices.Sorted(slices.Values(md.m.Exports)))
	if !slices.Equal(sorted, md.m.Exports) || len(sorted) > 0 && (sorted[0] < 0 || sorted[len(sorted)-1] >= len(md.m.Funs)) {
		return api.ErrCode
	}
	return 0
}

func (md *model) function(earlier []api.Fun) api.Errno {
	f := md.f
	if !atom.Valid(f.Name) || f.Arity < 0 || f.Arity > 255 || f.Arity > f.Locals || f.Locals > 1024 {
		return api.ErrCode
	}
	for _, e := range earlier {
		if e.Name == f.Name && e.Arity == f.Arity {
			return api.ErrTwice
		}
	}
	switch n := len(f.Code); {
	case n > 65536:
		return api.ErrMany
	case n == 0:
		return api.ErrFlow
	}
	return 0
}

// forms are those of a function and its instructions.
func (md *model) forms(earlier []api.Fun) told {
	if code := md.function(earlier); code != 0 {
		return told{code, 0}
	}
	for i, in := range md.f.Code {
		if in.Op < 1 || in.Op > 29 || !md.is(chapter[in.Op-1].a, in.A) || !md.is(chapter[in.Op-1].b, in.B) {
			return told{api.ErrCode, i}
		}
	}
	return told{}
}

// is: is a number what the chapter asks for?
func (md *model) is(what string, n int) bool {
	switch what {
	case "some":
		return n >= 1 && n <= 4096
	case "pair":
		if n < 0 || n >= len(md.c.Consts) {
			return false
		}
		t := md.c.Consts[n]
		return t.Kind == api.KTuple && len(t.Args) == 2 && t.Args[0].Kind == api.KAtom && t.Args[1].Kind == api.KAtom
	}
	last := 0
	switch what {
	case "constant":
		last = len(md.c.Consts) - 1
	case "local":
		last = md.f.Locals - 1
	case "fun":
		last = len(md.m.Funs) - 1
	case "insn":
		last = len(md.f.Code) - 1
	case "size":
		last = 4096
	case "args":
		last = 255
	case "bif":
		last = len(bifs) - 1
	case "act":
		last = len(acts) - 1
	case "two":
		last = 1
	case "three":
		last = 2
	}
	return n >= 0 && n <= last
}

// number is how many of something an instruction takes or puts.
func (md *model) number(what string, in api.Insn) int {
	switch what {
	case "A":
		return in.A
	case "A+1":
		return in.A + 1
	case "B":
		return in.B
	case "bif":
		return bifs[in.A].Arity
	case "fun":
		return md.m.Funs[in.A].Arity
	case "act":
		return atoi(acts[in.A][strings.Index(acts[in.A], "/")+1:])
	}
	return atoi(what)
}

// given is a state that an instruction gives another one.
type given struct{ to, height, handlers int }

// gives are the states that an instruction gives, the next one's ahead of the other's.
func (md *model) gives(i, height, handlers int) []given {
	in := md.f.Code[i]
	r := chapter[in.Op-1]
	left := height - md.number(r.takes, in)
	var all []given
	for way := range strings.SplitSeq(r.ways, ",") {
		switch way {
		case "next":
			g := given{i + 1, left + md.number(r.puts, in), handlers}
			switch r.name {
			case "try", "guard":
				g.handlers++
			case "done":
				g.handlers--
			}
			all = append(all, g)
		case "A":
			if r.name == "try" {
				left += 2
			}
			all = append(all, given{in.A, left, handlers})
		case "B":
			all = append(all, given{in.B, left, handlers})
		}
	}
	return all
}

// wrong: may an instruction not be gone through with this height and so many handlers?
func (md *model) wrong(i, height, handlers int) bool {
	in := md.f.Code[i]
	r := chapter[in.Op-1]
	left := height - md.number(r.takes, in)
	switch r.name {
	case "return":
		if height != 1 || handlers > 0 {
			return true
		}
	case "tail", "leave":
		if handlers > 0 {
			return true
		}
	case "done":
		if handlers == 0 {
			return true
		}
	case "try":
		if height+2 > 8192 {
			return true
		}
	}
	return left < 0 || left+md.number(r.puts, in) > 8192 || strings.HasPrefix(r.ways, "next") && i+1 == len(md.f.Code)
}

// states goes again and again through all instructions, till nothing new is found.
func (md *model) states([]api.Fun) told {
	has, gone := map[int]given{0: {}}, make([]bool, len(md.f.Code))
	md.height = 0
	for found := true; found; {
		found = false
		for i, in := range md.f.Code {
			s, ok := has[i]
			if !ok || gone[i] {
				continue
			}
			if md.wrong(i, s.height, s.handlers) {
				return told{api.ErrFlow, i}
			}
			gone[i], found = true, true
			behind := s.height - md.number(chapter[in.Op-1].takes, in) + md.number(chapter[in.Op-1].puts, in)
			md.height = max(md.height, s.height, behind)
			for _, g := range md.gives(i, s.height, s.handlers) {
				if old, ok := has[g.to]; ok && old != g {
					return told{api.ErrFlow, i}
				}
				has[g.to] = g
			}
		}
	}
	return told{}
}

// locals goes, for each local, all ways on which it is not set.
func (md *model) locals([]api.Fun) told {
	lowest := len(md.f.Code)
	for local := md.f.Arity; local < md.f.Locals; local++ {
		seen, todo := make([]bool, len(md.f.Code)), []int{0}
		seen[0] = true
		for len(todo) > 0 {
			i := todo[0]
			todo = todo[1:]
			in := md.f.Code[i]
			if in == (api.Insn{Op: api.CLoad, A: local}) {
				lowest = min(lowest, i)
			}
			if in == (api.Insn{Op: api.CStore, A: local}) {
				continue
			}
			for _, g := range md.gives(i, 0, 0) {
				if !seen[g.to] {
					seen[g.to] = true
					todo = append(todo, g.to)
				}
			}
		}
	}
	if lowest < len(md.f.Code) {
		return told{api.ErrUnset, lowest}
	}
	return told{}
}

// modelPrint is a well formed program's text.
func modelPrint(c api.Code) string {
	var out strings.Builder
	written := func(t api.Term) string {
		s, _ := term.Print(t)
		return s
	}
	for _, t := range c.Consts {
		fmt.Fprintln(&out, "const", written(t))
	}
	for _, m := range c.Mods {
		fmt.Fprintln(&out, "module", written(word(m.Name)))
		if len(m.Exports) > 0 {
			fmt.Fprintln(&out, "export", strings.Trim(fmt.Sprint(m.Exports), "[]"))
		}
		for _, f := range m.Funs {
			fmt.Fprintln(&out, "fun", written(word(f.Name)), f.Arity, f.Locals)
			for _, in := range f.Code {
				switch r := chapter[in.Op-1]; {
				case r.b != "-":
					fmt.Fprintln(&out, "", r.name, in.A, in.B)
				case r.a != "-":
					fmt.Fprintln(&out, "", r.name, in.A)
				default:
					fmt.Fprintln(&out, "", r.name)
				}
			}
		}
	}
	return out.String()
}

const decimal = `(0|[1-9][0-9]{0,8})`

var (
	constLine  = regexp.MustCompile(`(?s)^const (.*)$`)
	moduleLine = regexp.MustCompile(`(?s)^module (.*)$`)
	exportLine = regexp.MustCompile(`^export((?: ` + decimal + `)+)$`)
	funLine    = regexp.MustCompile(`(?s)^fun (.*) ` + decimal + ` ` + decimal + `$`)
	insnLine   = regexp.MustCompile(`^ ([a-z]+)(?: ` + decimal + `)?(?: ` + decimal + `)?$`)
)

// canonical is the term whose text this is, as it would be written.
func canonical(s string) (api.Term, bool) {
	t, err := term.Read(s)
	if err != nil {
		return api.Term{}, false
	}
	again, _ := term.Print(t)
	return t, again == s
}

// modelRead is a text's program, or what is told of it.
func modelRead(s string) (api.Code, told) {
	var c api.Code
	place := "consts"
	lines := strings.SplitAfter(s, "\n")
	for i, line := range lines {
		if line == "" && i == len(lines)-1 {
			break
		}
		body, ended := strings.CutSuffix(line, "\n")
		next := modelLine(&c, place, body)
		if !ended || next == "" {
			return api.Code{}, told{api.ErrLine, i}
		}
		place = next
	}
	if fault := modelCheck(c); fault != (told{}) {
		return api.Code{}, fault
	}
	return c, told{}
}

// modelLine puts a line into a program; what may stand behind it; "": it may not stand there.
func modelLine(c *api.Code, place, s string) string {
	last := len(c.Mods) - 1
	if w := constLine.FindStringSubmatch(s); w != nil && place == "consts" {
		t, ok := canonical(w[1])
		if !ok {
			return ""
		}
		c.Consts = append(c.Consts, t)
		return place
	}
	if w := moduleLine.FindStringSubmatch(s); w != nil {
		t, ok := canonical(w[1])
		if !ok || t.Kind != api.KAtom {
			return ""
		}
		c.Mods = append(c.Mods, api.Mod{Name: t.Text})
		return "exports"
	}
	if w := exportLine.FindStringSubmatch(s); w != nil && place == "exports" {
		for n := range strings.FieldsSeq(w[1]) {
			c.Mods[last].Exports = append(c.Mods[last].Exports, atoi(n))
		}
		return "funs"
	}
	if w := funLine.FindStringSubmatch(s); w != nil && place != "consts" {
		t, ok := canonical(w[1])
		if !ok || t.Kind != api.KAtom {
			return ""
		}
		c.Mods[last].Funs = append(c.Mods[last].Funs, api.Fun{Name: t.Text, Arity: atoi(w[2]), Locals: atoi(w[3])})
		return "insns"
	}
	if w := insnLine.FindStringSubmatch(s); w != nil && place == "insns" {
		op := slices.Index(names, w[1])
		if op < 0 || (chapter[op].a != "-") != (w[2] != "") || (chapter[op].b != "-") != (w[3] != "") {
			return ""
		}
		f := &c.Mods[last].Funs[len(c.Mods[last].Funs)-1]
		f.Code = append(f.Code, api.Insn{Op: api.Op(op + 1), A: atoi("0" + w[2]), B: atoi("0" + w[3])})
		return place
	}
	return ""
}
