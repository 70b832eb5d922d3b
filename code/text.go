package code

import (
	"strconv"
	"strings"

	"heddle/api"
	"heddle/atom"
	"heddle/term"
)

// Print is a program's text.
func Print(c api.Code) (string, error) {
	if err := Check(c); err != nil {
		return "", err
	}
	var out strings.Builder
	for line := range programOf(c).lines {
		if out.Len()+len(line) >= api.MaxImage {
			return "", refuse(0, api.ErrLong)
		}
		out.WriteString(line)
		out.WriteByte('\n')
	}
	return out.String(), nil
}

// lines are those of a program that is well formed, so that no term and no atom is refused.
func (p *program) lines(yield func(line string) bool) {
	for _, t := range p.Consts {
		text, _ := term.Print(t)
		if !yield("const " + text) {
			return
		}
	}
	for _, m := range p.Mods {
		if !linesOfModule(m, yield) {
			return
		}
	}
}

// linesOfModule tells whether more lines are wanted; likewise linesOfFunction.
func linesOfModule(m api.Mod, yield func(line string) bool) bool {
	name, _ := atom.Quote(m.Name)
	if !yield("module " + name) {
		return false
	}
	if len(m.Exports) > 0 && !yield("export"+digits(m.Exports)) {
		return false
	}
	for _, f := range m.Funs {
		if !linesOfFunction(f, yield) {
			return false
		}
	}
	return true
}

func linesOfFunction(f api.Fun, yield func(line string) bool) bool {
	name, _ := atom.Quote(f.Name)
	if !yield("fun " + name + digits([]int{f.Arity, f.Locals})) {
		return false
	}
	for _, in := range f.Code {
		f := forms[in.Op-1]
		operands := [2]int{in.A, in.B}
		if !yield(" " + f.name + digits(operands[:f.named()])) {
			return false
		}
	}
	return true
}

// digits is numbers with a blank ahead of each.
func digits(numbers []int) string {
	var text []byte
	for _, n := range numbers {
		text = strconv.AppendInt(append(text, ' '), int64(n), 10)
	}
	return string(text)
}
