package check

import (
	"slices"

	"trammel/api"
	"trammel/kinds"
)

// rules tells what values ask of their parts, in a program whose types and functions are known; bodies are not asked.
type rules struct{ api.Program }

// typeOf tells the type of a value by its parts; false, if it asks for others. The type of an XInt, XConv and XNew is its own, if
// it may be. A call without just one result has the type 0. What a local is, is not known here.
func (r rules) typeOf(t api.Term) (int, bool) {
	parts := typesOf(t.Kids...)
	switch t.Op {
	case api.XInt:
		return t.Type, are(parts) && isInt(t.Type) && signed(t.Type, uint64(t.N)) == t.N
	case api.XText:
		return api.Text, are(parts)
	case api.XTrue, api.XFalse:
		return api.Bool, are(parts)
	case api.XCall:
		return r.result(t.N), r.isFunc(t.N) && are(parts, r.Funcs[t.N].Params...)
	case api.XConv:
		_, ok := common(1, parts, api.I8, api.I32, api.I64)
		return t.Type, ok && isInt(t.Type)
	case api.XNew:
		return t.Type, r.makes(t.Type, parts)
	case api.XField, api.XAt, api.XLen, api.XPop:
		return r.inside(t, parts)
	case api.XCut:
		return api.Text, are(parts, api.Text, api.I64, api.I64)
	case api.XByte:
		return api.Text, are(parts, api.I32)
	}
	return typeOfSign(t.Op, parts)
}

// typeOfSign is typeOf for what is written with a sign.
func typeOfSign(op uint8, parts []int) (int, bool) {
	switch {
	case op == api.XNeg || op == api.XNot:
		return common(1, parts, api.I8, api.I32, api.I64)
	case op == api.XFlip:
		return api.Bool, are(parts, api.Bool)
	case op == api.XAdd:
		return common(2, parts, api.I8, api.I32, api.I64, api.Text)
	case op >= api.XSub && op <= api.XShr:
		return common(2, parts, api.I8, api.I32, api.I64)
	case op == api.XEq || op == api.XNe:
		_, ok := common(2, parts, api.I8, api.I32, api.I64, api.Bool, api.Text)
		return api.Bool, ok
	case op >= api.XLt && op <= api.XGe:
		_, ok := common(2, parts, api.I8, api.I32, api.I64)
		return api.Bool, ok
	}
	return api.Bool, (op == api.XBoth || op == api.XEither) && are(parts, api.Bool, api.Bool)
}

// inside is typeOf for what looks into a record, an array or a text, which is its first part.
func (r rules) inside(t api.Term, parts []int) (int, bool) {
	if len(parts) == 0 {
		return 0, false
	}
	whole, _ := kinds.Get(r.Types, parts[0])
	more := parts[1:]
	text, grow := whole.Kind == api.Text, whole.Kind == api.Grow
	array := grow || whole.Kind == api.Fixed
	switch t.Op {
	case api.XField:
		if whole.Kind != api.Record || t.N < 0 || t.N >= int64(len(whole.Fields)) {
			return 0, false
		}
		return whole.Fields[t.N].Type, are(more)
	case api.XAt:
		if text {
			return api.I32, are(more, api.I64)
		}
		return whole.Elem, array && are(more, api.I64)
	case api.XLen:
		return api.I64, (text || array) && are(more)
	}
	return whole.Elem, grow && are(more) // XPop
}

// makes: is a thing of that type made of such parts?
func (r rules) makes(typ int, parts []int) bool {
	t, _ := kinds.Get(r.Types, typ)
	switch t.Kind {
	case api.Record:
		return slices.EqualFunc(parts, t.Fields, func(part int, f api.Field) bool { return part == f.Type })
	case api.Fixed:
		return are(parts, t.Elem)
	}
	return t.Kind == api.Grow && are(parts)
}

// pushes: may the second part be put behind the elements of the first one?
func (r rules) pushes(parts ...api.Term) bool {
	if len(parts) != 2 {
		return false
	}
	elem, ok := r.typeOf(term(api.XPop, parts[0]))
	return ok && elem == parts[1].Type
}

func (r rules) isRecord(typ int) bool {
	t, _ := kinds.Get(r.Types, typ)
	return t.Kind == api.Record
}

// isFunc: is it the place of a function?
func (r rules) isFunc(place int64) bool { return place >= 0 && place < int64(len(r.Funcs)) }

// resultsOf tells the results of the function at that place; none, if there is no function.
func (r rules) resultsOf(place int64) []int {
	if !r.isFunc(place) {
		return nil
	}
	return r.Funcs[place].Results
}

// result tells the type of a call of the function at that place.
func (r rules) result(place int64) int {
	if list := r.resultsOf(place); len(list) == 1 {
		return list[0]
	}
	return 0
}

// typesOf tells the types of parts.
func typesOf(parts ...api.Term) []int {
	list := make([]int, len(parts))
	for i, t := range parts {
		list[i] = t.Type
	}
	return list
}

// are: do parts have just these types?
func are(parts []int, types ...int) bool { return slices.Equal(parts, types) }

// common tells the type that parts, one or two, have in common, if it is one of these.
func common(count int, parts []int, types ...int) (int, bool) {
	if len(parts) != count || !slices.Contains(types, parts[0]) || parts[0] != parts[count-1] {
		return 0, false
	}
	return parts[0], true
}

// isInt: is it a type of whole numbers?
func isInt(typ int) bool { return typ == api.I8 || typ == api.I32 || typ == api.I64 }

// suffix tells the type that a number's suffix means; without one it is i64.
func suffix(text string) int {
	switch text {
	case "i8":
		return api.I8
	case "i32":
		return api.I32
	}
	return api.I64
}

// signed tells a number as a signed one of a type's width.
func signed(typ int, n uint64) int64 {
	switch typ {
	case api.I8:
		return int64(int8(n))
	case api.I32:
		return int64(int32(n))
	}
	return int64(n)
}

// has: is this, as it is written, a number of a type? One of w bits has them up to 2^w - 1.
func has(typ int, n uint64) bool {
	switch typ {
	case api.I8:
		return n == uint64(uint8(n))
	case api.I32:
		return n == uint64(uint32(n))
	}
	return true
}
