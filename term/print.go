package term

import (
	"strconv"
	"strings"

	"heddle/api"
	"heddle/atom"
)

// Print is a term's text.
func Print(t api.Term) (string, error) {
	if err := Check(t); err != nil {
		return "", err
	}
	var out strings.Builder
	write(&out, t)
	return out.String(), nil
}

func write(out *strings.Builder, t api.Term) {
	switch t.Kind {
	case api.KInt:
		out.WriteString(strconv.FormatInt(t.Int, 10))
	case api.KAtom:
		writeAtom(out, t.Text)
	case api.KRef:
		out.WriteString("#Ref")
		fallthrough
	case api.KPid:
		out.WriteByte('<')
		writeAtom(out, t.Text)
		writeNumber(out, t.Creation)
		for _, n := range t.Nums {
			writeNumber(out, n)
		}
		out.WriteByte('>')
	case api.KTuple:
		out.WriteByte('{')
		writeAll(out, t.Args)
		out.WriteByte('}')
	case api.KNil:
		out.WriteString("[]")
	case api.KList:
		writeList(out, t.Args)
	}
}

// writeAtom writes what Check has let through, so Quote does not refuse it.
func writeAtom(out *strings.Builder, text string) {
	quoted, _ := atom.Quote(text)
	out.WriteString(quoted)
}

func writeNumber(out *strings.Builder, n uint32) {
	out.WriteByte('.')
	out.WriteString(strconv.FormatUint(uint64(n), 10))
}

func writeAll(out *strings.Builder, list []api.Term) {
	for i, t := range list {
		if i > 0 {
			out.WriteByte(',')
		}
		write(out, t)
	}
}

// writeList takes a list's Args.
func writeList(out *strings.Builder, args []api.Term) {
	last := len(args) - 1
	out.WriteByte('[')
	writeAll(out, args[:last])
	if args[last].Kind != api.KNil {
		out.WriteByte('|')
		write(out, args[last])
	}
	out.WriteByte(']')
}
