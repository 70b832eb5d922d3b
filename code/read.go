package code

import (
	"strconv"
	"strings"

	"heddle/api"
	"heddle/atom"
	"heddle/term"
)

// maxDigits is how many digits a number has at most.
const maxDigits = 9

// Read is a text's program.
func Read(s string) (api.Code, error) {
	if len(s) > api.MaxImage {
		return api.Code{}, refuse(0, api.ErrLong)
	}
	var r reader
	for number := 0; s != ""; number++ {
		line, rest, ended := strings.Cut(s, "\n")
		if !ended || !r.take(line) {
			return api.Code{}, refuse(number, api.ErrLine)
		}
		s = rest
	}
	if err := Check(r.code); err != nil {
		return api.Code{}, err
	}
	return r.code, nil
}

// reader puts a program together, line by line.
type reader struct{ code api.Code }

// take: is a line of a form that may stand behind those ahead of it?
func (r *reader) take(line string) bool {
	word, rest, _ := strings.Cut(line, " ")
	switch word {
	case "const":
		return r.takeConst(rest)
	case "module":
		return r.takeModule(rest)
	case "export":
		return r.takeExports(rest)
	case "fun":
		return r.takeFunction(rest)
	case "":
		return r.takeInstruction(rest)
	}
	return false
}

func (r *reader) takeConst(s string) bool {
	t, err := term.Read(s)
	if err != nil || r.module() != nil {
		return false
	}
	// Terms are read with blanks, and in other ways; here each has the one text with which it is written.
	if written, _ := term.Print(t); written != s {
		return false
	}
	r.code.Consts = append(r.code.Consts, t)
	return true
}

func (r *reader) takeModule(s string) bool {
	name, rest, ok := readAtom(s)
	if !ok || rest != "" {
		return false
	}
	r.code.Mods = append(r.code.Mods, api.Mod{Name: name})
	return true
}

func (r *reader) takeExports(s string) bool {
	m := r.module()
	if m == nil || len(m.Exports) > 0 || len(m.Funs) > 0 {
		return false
	}
	exports, ok := readNumbers(strings.Split(s, " "))
	m.Exports = exports
	return ok
}

func (r *reader) takeFunction(s string) bool {
	m := r.module()
	name, rest, ok := readAtom(s)
	if m == nil || !ok {
		return false
	}
	words := strings.Split(rest, " ")
	numbers, ok := readNumbers(words[1:])
	if !ok || words[0] != "" || len(numbers) != 2 {
		return false
	}
	m.Funs = append(m.Funs, api.Fun{Name: name, Arity: numbers[0], Locals: numbers[1]})
	return true
}

func (r *reader) takeInstruction(s string) bool {
	f := r.function()
	words := strings.Split(s, " ")
	op, there := named(words[0])
	numbers, ok := readNumbers(words[1:])
	if f == nil || !there || !ok || len(numbers) != forms[op-1].named() {
		return false
	}
	numbers = append(numbers, 0, 0) // what is not named is 0
	f.Code = append(f.Code, api.Insn{Op: op, A: numbers[0], B: numbers[1]})
	return true
}

// module is the last one; nil: there is none.
func (r *reader) module() *api.Mod {
	if len(r.code.Mods) == 0 {
		return nil
	}
	return &r.code.Mods[len(r.code.Mods)-1]
}

// function is the last one of the last module; nil: there is none.
func (r *reader) function() *api.Fun {
	m := r.module()
	if m == nil || len(m.Funs) == 0 {
		return nil
	}
	return &m.Funs[len(m.Funs)-1]
}

// named is an Op by its name.
func named(name string) (api.Op, bool) {
	for i, f := range forms {
		if f.name == name {
			return api.Op(i + 1), true
		}
	}
	return 0, false
}

// readAtom reads the atom with which a text begins, and what stands behind it. False: there is none, or it is not as it would be written.
func readAtom(s string) (string, string, bool) {
	name, end, err := atom.Scan(s, 0)
	if err != nil {
		return "", "", false
	}
	written, _ := atom.Quote(name)
	return name, s[end:], written == s[:end]
}

func readNumbers(words []string) ([]int, bool) {
	var numbers []int
	for _, word := range words {
		n, ok := readNumber(word)
		if !ok {
			return nil, false
		}
		numbers = append(numbers, n)
	}
	return numbers, true
}

// readNumber takes digits alone, without a zero ahead: strconv would take signs, too.
func readNumber(word string) (int, bool) {
	if len(word) > maxDigits || len(word) > 1 && word[0] == '0' {
		return 0, false
	}
	for i := range len(word) {
		if word[i] < '0' || word[i] > '9' {
			return 0, false
		}
	}
	n, err := strconv.Atoi(word)
	return n, err == nil
}
