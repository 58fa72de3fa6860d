package image

import (
	"trammel/api"
	"trammel/wire"
)

// room is how many bytes a body may have.
const room = api.MaxImage - headSize - sumSize

// writer puts a body's bytes one behind the other. Behind the first that it has no room for it keeps nothing: a module made by hand
// may name one long text very often.
type writer struct {
	body []byte
	over bool
}

// has: is there room for so many bytes more?
func (w *writer) has(size int) bool {
	w.over = w.over || size > room-len(w.body)
	return !w.over
}

func (w *writer) put(b ...byte) {
	if w.has(len(b)) {
		w.body = append(w.body, b...)
	}
}

func (w *writer) number(n int) { w.put(wire.Put(uint64(n))...) }

func (w *writer) numbers(list []int) {
	w.number(len(list))
	for _, n := range list {
		w.number(n)
	}
}

func (w *writer) text(s string) {
	w.number(len(s))
	if w.has(len(s)) {
		w.body = append(w.body, s...)
	}
}

func (w *writer) module(m api.Module) {
	w.number(len(m.Types))
	for _, x := range m.Types {
		w.typ(x)
	}
	w.number(len(m.Texts))
	for _, s := range m.Texts {
		w.text(s)
	}
	w.number(len(m.Funcs))
	for _, f := range m.Funcs {
		w.routine(f)
	}
}

func (w *writer) typ(x api.Type) {
	w.put(x.Kind)
	switch x.Kind {
	case api.Record:
		w.text(x.Name)
		w.fields(x.Fields)
	case api.Fixed:
		w.number(x.Elem)
		w.number(x.Len)
	case api.Grow:
		w.number(x.Elem)
	}
}

func (w *writer) fields(list []api.Field) {
	w.number(len(list))
	for _, f := range list {
		w.text(f.Name)
		w.number(f.Type)
	}
}

func (w *writer) routine(f api.Routine) {
	w.text(f.Name)
	w.numbers(f.Params)
	w.numbers(f.Results)
	w.number(f.Locals)
	w.number(f.Stack)
	w.number(len(f.Code))
	w.put(f.Code...)
}
