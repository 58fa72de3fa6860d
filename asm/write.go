package asm

import (
	"strconv"
	"strings"

	"trammel/api"
	"trammel/ops"
)

// writer puts the lines of a module's text one behind the other.
type writer struct{ strings.Builder }

func (w *writer) line(words ...string) {
	for i, s := range words {
		if i > 0 {
			w.WriteByte(' ')
		}
		w.WriteString(s)
	}
	w.WriteByte('\n')
}

// inner puts a line that stands between func and end.
func (w *writer) inner(words ...string) {
	w.WriteString("  ")
	w.line(words...)
}

func (w *writer) module(m api.Module) {
	for _, x := range m.Types {
		w.line(typeWords(x)...)
	}
	for _, s := range m.Texts {
		w.line("text", quote(s))
	}
	for _, f := range m.Funcs {
		w.routine(f)
	}
}

func (w *writer) routine(f api.Routine) {
	w.line("func", quote(f.Name), number(f.Locals), number(f.Stack))
	w.inner(numberWords("params", f.Params...)...)
	w.inner(numberWords("results", f.Results...)...)
	list, _, _ := ops.All(f.Code) // image.Check has taken it
	for _, x := range list {
		w.inner(instrWords(x)...)
	}
	w.line("end")
}

func typeWords(x api.Type) []string {
	switch x.Kind {
	case api.Fixed:
		return []string{"fixed", number(x.Elem), number(x.Len)}
	case api.Grow:
		return []string{"grow", number(x.Elem)}
	}
	words := []string{"record", quote(x.Name)}
	for _, f := range x.Fields {
		words = append(words, quote(f.Name), number(f.Type))
	}
	return words
}

func instrWords(x api.Instr) []string {
	name := ops.Name(x.Op)
	if x.Op == api.OpSwitch {
		return append(armWords(name, x), "else", number(x.B))
	}
	return numberWords(name, []int64{x.A, x.B}[:numbersOf(x.Op)]...)
}

func armWords(name string, x api.Instr) []string {
	words := numberWords(name, x.A)
	for _, a := range x.Arms {
		words = append(words, number(a.Value)+":"+number(a.To))
	}
	return words
}

func numberWords[N int | int64](name string, list ...N) []string {
	words := []string{name}
	for _, n := range list {
		words = append(words, number(n))
	}
	return words
}

func number[N int | int64](n N) string { return strconv.FormatInt(int64(n), 10) }

// quote tells the string that stands for a text.
func quote(s string) string {
	b := []byte{'"'}
	for _, c := range []byte(s) {
		if c < ' ' || c > '~' || c == '"' || c == '\\' {
			b = append(b, '\\', hexDigits[c>>4], hexDigits[c&15])
			continue
		}
		b = append(b, c)
	}
	return string(append(b, '"'))
}
