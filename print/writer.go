package print

import (
	"strconv"
	"strings"

	"trammel/api"
)

// writer writes trees that may be. It takes no more than a source may have: a tree within the limits, but with blocks in blocks or
// with one long name all over, would have a text of gigabytes, which is refused anyway.
type writer struct {
	strings.Builder
	deep int  // in braces
	full bool // something found no room; nothing is written any more
}

// room: is there room for a text?
func (w *writer) room(text string) bool {
	w.full = w.full || len(text) > api.MaxSource-w.Len()
	return !w.full
}

// put writes texts, one right behind the other.
func (w *writer) put(texts ...string) {
	for _, text := range texts {
		if w.room(text) {
			w.WriteString(text)
		}
	}
}

// number writes a number, and what stands right behind it.
func (w *writer) number(n uint64, behind string) { w.put(strconv.FormatUint(n, 10), behind) }

// indent begins a line.
func (w *writer) indent() {
	for i := 0; i < w.deep && !w.full; i++ {
		w.put("\t")
	}
}

// list writes what stands in a list: a comma and a blank between each two.
func (w *writer) list(parts ...api.Node) {
	for i, n := range parts {
		if i > 0 {
			w.put(", ")
		}
		w.part(n)
	}
}

// enclosed writes a list between ( and ).
func (w *writer) enclosed(parts ...api.Node) {
	w.put("(")
	w.list(parts...)
	w.put(")")
}

// part writes what may stand in a list.
func (w *writer) part(n api.Node) {
	switch {
	case n.Kind == api.NWord:
		w.put(n.Text)
	case n.Kind == api.NField:
		w.field(n)
	case isType(n.Kind):
		w.typeOf(n)
	default:
		w.expr(n)
	}
}

func isType(kind uint8) bool {
	return kind == api.NNamed || kind == api.NFixed || kind == api.NGrow
}

func (w *writer) typeOf(n api.Node) {
	switch n.Kind {
	case api.NFixed:
		w.put("[")
		w.number(n.N, "]")
		w.typeOf(n.Kids[0])
	case api.NGrow:
		w.put("[]")
		w.typeOf(n.Kids[0])
	default:
		w.put(n.Text)
	}
}

func (w *writer) program(n api.Node) {
	for _, item := range n.Kids {
		if item.Kind == api.NRecord {
			w.record(item)
		} else {
			w.function(item)
		}
		w.put("\n")
	}
}

func (w *writer) record(n api.Node) {
	w.put("record ", n.Text, " {\n")
	for _, field := range n.Kids {
		w.put("\t")
		w.field(field)
		w.put(";\n")
	}
	w.put("}")
}

// field writes a record's field, or a parameter.
func (w *writer) field(n api.Node) {
	w.put(n.Text, " ")
	w.typeOf(n.Kids[0])
}

func (w *writer) function(n api.Node) {
	w.put("fn ", n.Text)
	w.enclosed(n.Kids[0].Kids...)
	w.results(n.Kids[1].Kids...)
	w.put(" ")
	w.block(n.Kids[2])
}

func (w *writer) results(types ...api.Node) {
	switch len(types) {
	case 0:
	case 1:
		w.put(" ")
		w.typeOf(types[0])
	default:
		w.put(" ")
		w.enclosed(types...)
	}
}
