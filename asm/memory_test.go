package asm

import (
	"slices"
	"strings"
	"testing"
	"unsafe"

	"trammel/api"
	"trammel/image"
)

// loose makes a text whose bytes can be written over.
func loose(s string) (string, []byte) {
	b := []byte(s)
	return unsafe.String(unsafe.SliceData(b), len(b)), b
}

// spoil writes over a list, and what lies behind it.
func spoil[T any](list []T, x T) {
	list = list[:cap(list)]
	for i := range list {
		list[i] = x
	}
}

// spoilModule writes over all lists of a module, the inner ones first.
func spoilModule(m api.Module) {
	for _, x := range m.Types {
		spoil(x.Fields, api.Field{Name: "spoilt", Type: -1})
	}
	for _, f := range m.Funcs {
		spoil(f.Params, -1)
		spoil(f.Results, -1)
		spoil(f.Code, 0xee)
	}
	spoil(m.Types, api.Type{Kind: 99})
	spoil(m.Texts, "spoilt")
	spoil(m.Funcs, api.Routine{Name: "spoilt"})
}

const memoryText = `record "P" "a" 1 "b" 16 "c" 5
record "P" "a" 1 "b" 16 "c" 5
grow 16
text "some text"
text "some text"
func "f" 3 1
  params 1 2 3
  results 1 2 3
  true
  false
  pop
end
func "f" 3 1
  params 1 2 3
  results 1 2 3
  true
  false
  pop
end
`

func memoryModule() api.Module {
	typ := func() api.Type {
		return api.Type{Kind: api.Record, Name: "P", Fields: []api.Field{{Name: "a", Type: 1}, {Name: "b", Type: 16}, {Name: "c", Type: 5}}}
	}
	one := func() api.Routine {
		return api.Routine{Name: "f", Params: []int{1, 2, 3}, Results: []int{1, 2, 3}, Locals: 3, Stack: 1, Code: []byte{4, 5, 9}}
	}
	return api.Module{Types: []api.Type{typ(), typ(), {Kind: api.Grow, Elem: 16}}, Texts: []string{"some text", "some text"}, Funcs: []api.Routine{one(), one()}}
}

func TestP14_3Parse(t *testing.T) {
	s, b := loose(memoryText)
	first, _, _ := Parse(s)
	second, _, err := Parse(s)
	for i := range s {
		Parse(s[:i])
	}
	if string(b) != memoryText {
		t.Fatalf("handed in: %s", short(string(b)))
	}
	spoilModule(first)
	spoil(b, '~')
	if err != api.OK || !image.Same(second, memoryModule()) {
		t.Errorf("behind a change of the text and of another answer: %v, %d", second, err)
	}
	if third, _, err := Parse(memoryText); err != api.OK || !image.Same(third, memoryModule()) {
		t.Errorf("behind all changes: %v, %d", third, err)
	}
}

// Of the lists that Parse answers no two share memory, nor does what lies behind them.
func TestP14_3ParseWithin(t *testing.T) {
	for i := range 2 {
		for which := range 4 {
			m, _, _ := Parse(memoryText)
			f := &m.Funcs[i]
			switch which {
			case 0:
				spoil(f.Params, 77)
				f.Params = []int{1, 2, 3}
			case 1:
				spoil(f.Results, 77)
				f.Results = []int{1, 2, 3}
			case 2:
				spoil(f.Code, 77)
				f.Code = []byte{4, 5, 9}
			case 3:
				spoil(m.Types[i].Fields, api.Field{Name: "spoilt"})
				m.Types[i].Fields = memoryModule().Types[0].Fields
			}
			if !image.Same(m, memoryModule()) {
				t.Errorf("behind a change of list %d of number %d: %v", which, i, m)
			}
		}
	}
}

// behindIt puts a list at the beginning of a longer memory.
func behindIt[T any](list []T, rest ...T) []T { return append(list, rest...)[:len(list)] }

// roomy is the module with more behind each of its lists, and with texts whose bytes can be written over.
func roomy() (api.Module, [][]byte) {
	m := memoryModule()
	var all [][]byte
	free := func(s *string) {
		var b []byte
		*s, b = loose(*s)
		all = append(all, b)
	}
	for i := range m.Types {
		x := &m.Types[i]
		for j := range x.Fields {
			free(&x.Fields[j].Name)
		}
		if x.Kind == api.Record {
			free(&x.Name)
		}
		x.Fields = behindIt(x.Fields, api.Field{Name: "behind", Type: 9})
	}
	for i := range m.Texts {
		free(&m.Texts[i])
	}
	for i := range m.Funcs {
		f := &m.Funcs[i]
		free(&f.Name)
		f.Params, f.Results, f.Code = behindIt(f.Params, 77), behindIt(f.Results, 77), behindIt(f.Code, 77)
	}
	m.Types, m.Texts, m.Funcs = behindIt(m.Types, api.Type{Kind: 77}), behindIt(m.Texts, "behind"), behindIt(m.Funcs, api.Routine{Name: "behind"})
	return m, all
}

// whole is a module with what lies behind its lists.
func whole(m api.Module) api.Module {
	m.Types, m.Texts, m.Funcs = slices.Clone(m.Types[:cap(m.Types)]), slices.Clone(m.Texts[:cap(m.Texts)]), slices.Clone(m.Funcs[:cap(m.Funcs)])
	for i := range m.Types {
		x := &m.Types[i]
		x.Name = strings.Clone(x.Name)
		x.Fields = slices.Clone(x.Fields[:cap(x.Fields)])
	}
	for i := range m.Funcs {
		f := &m.Funcs[i]
		f.Name = strings.Clone(f.Name)
		f.Params, f.Results, f.Code = slices.Clone(f.Params[:cap(f.Params)]), slices.Clone(f.Results[:cap(f.Results)]), slices.Clone(f.Code[:cap(f.Code)])
	}
	return m
}

func TestP14_3Print(t *testing.T) {
	m, texts := roomy()
	before := whole(m)
	first, _ := Print(m)
	second, err := Print(m)
	if !image.Same(whole(m), before) {
		t.Fatalf("handed in: %v, want %v", whole(m), before)
	}
	for _, b := range texts {
		spoil(b, '~')
	}
	spoilModule(m)
	if first != memoryText || err != api.OK {
		t.Errorf("behind a change of the module: %s, %d", short(first), err)
	}
	if unsafe.StringData(first) == unsafe.StringData(second) {
		t.Error("two answers share memory")
	}
	if third, err := Print(memoryModule()); third != memoryText || err != api.OK {
		t.Errorf("behind all changes: %s, %d", short(third), err)
	}
}

// A module of one text alone: what is answered does not share its bytes either.
func TestP14_3OneText(t *testing.T) {
	s, b := loose("abc")
	printedText, _ := Print(api.Module{Texts: []string{s}})
	text, c := loose(`text "abc"`)
	m, _, _ := Parse(text)
	spoil(b, '~')
	spoil(c, '~')
	if printedText != "text \"abc\"\n" || len(m.Texts) != 1 || m.Texts[0] != "abc" {
		t.Errorf("%q, %q", printedText, m.Texts)
	}
}
