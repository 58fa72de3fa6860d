package check

import "trammel/api"

// values tells the terms of parts as values, from the left.
func (w *walker) values(parts ...api.Node) []api.Term {
	var list []api.Term
	for _, n := range parts {
		list = append(list, w.value(n))
	}
	return list
}

// value tells the term of an expression as a value.
func (w *walker) value(n api.Node) api.Term {
	if w.wrong != api.OK {
		return api.Term{}
	}
	switch n.Kind {
	case api.XInt:
		typ := suffix(n.Text)
		return api.Term{Op: n.Kind, Type: typ, N: signed(typ, n.N)}
	case api.XText:
		return api.Term{Op: n.Kind, Type: api.Text, Text: n.Text}
	case api.XName:
		slot, typ, ok := w.Find(n.Text)
		w.ask(ok, n.At, api.ErrName)
		return api.Term{Op: n.Kind, Type: typ, N: int64(slot)}
	case api.XCall:
		t := w.call(n)
		w.ask(t.Type != 0, n.At, api.ErrArgs) // as a value it has just one result
		return t
	case api.XConv:
		return w.typed(n.At, api.ErrOperand, api.Term{Op: n.Kind, Type: suffix(n.Text), Kids: w.values(n.Kids...)})
	case api.XNew:
		return w.typed(n.At, api.ErrArgs, api.Term{Op: n.Kind, Type: w.table.Find(n.Kids[0]), Kids: w.values(n.Kids[1:]...)})
	case api.XField:
		return w.field(n)
	}
	return w.typed(n.At, api.ErrOperand, api.Term{Op: n.Kind, Kids: w.values(n.Kids...)})
}

// typed gives a value its type; if it asks for other parts than it has, that is what is wrong at its place.
func (w *walker) typed(place int, wrong api.Errno, t api.Term) api.Term {
	typ, ok := w.typeOf(t)
	w.ask(ok, place, wrong)
	t.Type = typ
	return t
}

// call tells the term of an XCall, with any results.
func (w *walker) call(n api.Node) api.Term {
	if w.wrong != api.OK {
		return api.Term{}
	}
	place, ok := w.places[n.Text]
	w.ask(ok, n.At, api.ErrName)
	return w.typed(n.At, api.ErrArgs, api.Term{Op: n.Kind, N: int64(place), Kids: w.values(n.Kids...)})
}

// field tells the term of an XField.
func (w *walker) field(n api.Node) api.Term {
	parts := w.values(n.Kids...)
	w.ask(w.isRecord(parts[0].Type), n.At, api.ErrOperand)
	place, typ, ok := w.table.Field(parts[0].Type, n.Text)
	w.ask(ok, n.At, api.ErrName)
	return api.Term{Op: n.Kind, Type: typ, N: int64(place), Kids: parts}
}
