package lower

import (
	"trammel/api"
	"trammel/kinds"
)

// values puts the lines of values, one behind the other.
func (w *walker) values(list ...api.Term) {
	for _, t := range list {
		w.value(t)
	}
}

// value puts the lines of a value, or of a call with any results.
func (w *walker) value(t api.Term) {
	switch t.Op {
	case api.XBoth:
		w.either(api.OpUnless, t.Kids[0], t.Kids[1])
	case api.XEither:
		w.either(api.OpWhen, t.Kids[0], t.Kids[1])
	default:
		w.values(t.Kids...)
		w.put(w.behind(t))
	}
}

// either puts the lines of a bool of two parts, of which the second one counts just where the first one does not lead past it.
func (w *walker) either(past uint8, left, right api.Term) {
	end := w.label()
	w.value(left)
	w.put(instr(api.OpDup), to(past, end), instr(api.OpPop))
	w.value(right)
	w.put(at(end))
}

// behind tells what stands behind the parts of a value.
func (w *walker) behind(t api.Term) api.Line {
	switch t.Op {
	case api.XInt:
		return instr(numberOp(t.Type), t.N)
	case api.XText:
		return instr(api.OpText, int64(w.texts.places[t.Text]))
	case api.XTrue:
		return instr(api.OpTrue)
	case api.XFalse:
		return instr(api.OpFalse)
	case api.XName:
		return instr(api.OpGet, t.N)
	case api.XCall:
		return instr(api.OpCall, t.N)
	case api.XNew:
		made, _ := kinds.Get(w.program.Types, t.Type)
		return instr(makingOp(made.Kind), int64(t.Type))
	case api.XCut:
		return instr(api.OpCut)
	case api.XByte:
		return instr(api.OpByte)
	case api.XField, api.XAt, api.XLen, api.XPop:
		return behindInside(t)
	}
	return behindSign(t)
}

// behindInside is behind for what looks into a record, an array or a text, which is its first part.
func behindInside(t api.Term) api.Line {
	whole := firstType(t)
	switch {
	case t.Op == api.XField:
		return instr(api.OpField, whole, t.N)
	case t.Op == api.XAt && whole == api.Text:
		return instr(api.OpCharAt)
	case t.Op == api.XAt:
		return instr(api.OpAt, whole)
	case t.Op == api.XLen && whole == api.Text:
		return instr(api.OpSize)
	case t.Op == api.XLen:
		return instr(api.OpLen, whole)
	}
	return instr(api.OpDrop, whole) // XPop
}

// behindSign is behind for what is written with a sign, and for XConv. Signs stand in the order of their instructions.
func behindSign(t api.Term) api.Line {
	width := firstType(t)
	switch {
	case t.Op == api.XConv:
		return instr(api.OpConv, width, int64(t.Type))
	case t.Op == api.XNeg:
		return instr(api.OpNeg, width)
	case t.Op == api.XNot:
		return instr(api.OpNot, width)
	case t.Op == api.XFlip:
		return instr(api.OpFlip)
	case t.Op == api.XAdd && width == api.Text:
		return instr(api.OpCat)
	case t.Op <= api.XShr:
		return instr(t.Op-api.XAdd+api.OpAdd, width)
	}
	return instr(t.Op-api.XEq+api.OpEq, width)
}

// firstType tells the number of the type of a term's first part.
func firstType(t api.Term) int64 { return int64(t.Kids[0].Type) }

// numberOp tells the Op of a number of a type.
func numberOp(typ int) uint8 {
	switch typ {
	case api.I8:
		return api.OpI8
	case api.I32:
		return api.OpI32
	}
	return api.OpI64
}

// makingOp tells the Op that makes a thing of a kind.
func makingOp(kind uint8) uint8 {
	switch kind {
	case api.Record:
		return api.OpNew
	case api.Fixed:
		return api.OpFill
	}
	return api.OpEmpty
}
