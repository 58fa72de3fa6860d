package ops

import (
	"slices"

	"trammel/api"
)

// anyType stands where a value of any type may.
const anyType = 0

// effect is what an instruction takes from the stack and puts there: types, the topmost last.
type effect struct{ takes, puts []int }

// take and put make lists of their own: what they are handed may be a module's.
func take(types ...int) effect { return effect{takes: slices.Clone(types)} }

func (e effect) put(types ...int) effect {
	e.puts = slices.Clone(types)
	return e
}

// effectOf tells the effect of what is an instruction; false, if it names what the module does not have.
func effectOf(x api.Instr, m api.Module) (effect, bool) {
	switch x.Op {
	case api.OpText:
		return take().put(api.Text), x.A < int64(len(m.Texts))
	case api.OpCall:
		return ofCall(x.A, m.Funcs)
	case api.OpNew, api.OpField, api.OpSetField:
		return ofRecord(x, m.Types)
	case api.OpFill, api.OpEmpty, api.OpAt, api.OpSetAt, api.OpLen, api.OpPush, api.OpDrop:
		return ofArray(x, m.Types)
	case api.OpTrue, api.OpFalse, api.OpGet, api.OpPut, api.OpPop, api.OpDup, api.OpFlip, api.OpCat, api.OpSize,
		api.OpCharAt, api.OpCut, api.OpByte, api.OpUnless, api.OpWhen:
		return ofOp(x.Op), true
	}
	return ofWidth(x), true
}

func ofCall(at int64, funcs []api.Routine) (effect, bool) {
	if at >= int64(len(funcs)) {
		return effect{}, false
	}
	f := funcs[at]
	return take(f.Params...).put(f.Results...), true
}

func ofRecord(x api.Instr, types []api.Type) (effect, bool) {
	t, ok := find(types, x.A, api.Record)
	if !ok {
		return effect{}, false
	}
	if x.Op == api.OpNew {
		return take(fieldTypes(t)...).put(int(x.A)), true
	}
	if x.B >= int64(len(t.Fields)) {
		return effect{}, false
	}
	field := t.Fields[x.B].Type
	if x.Op == api.OpField {
		return take(int(x.A)).put(field), true
	}
	return take(int(x.A), field), true
}

func fieldTypes(t api.Type) []int {
	var list []int
	for _, f := range t.Fields {
		list = append(list, f.Type)
	}
	return list
}

func ofArray(x api.Instr, types []api.Type) (effect, bool) {
	t, ok := find(types, x.A, arraysOf(x.Op)...)
	if !ok {
		return effect{}, false
	}
	array := int(x.A)
	switch x.Op {
	case api.OpFill:
		return take(t.Elem).put(array), true
	case api.OpEmpty:
		return take().put(array), true
	case api.OpAt:
		return take(array, api.I64).put(t.Elem), true
	case api.OpSetAt:
		return take(array, api.I64, t.Elem), true
	case api.OpLen:
		return take(array).put(api.I64), true
	case api.OpPush:
		return take(array, t.Elem), true
	}
	return take(array).put(t.Elem), true // OpDrop
}

// arraysOf tells of which kinds of arrays an Op may be.
func arraysOf(op uint8) []uint8 {
	switch op {
	case api.OpFill:
		return []uint8{api.Fixed}
	case api.OpEmpty, api.OpPush, api.OpDrop:
		return []uint8{api.Grow}
	}
	return []uint8{api.Fixed, api.Grow}
}

// find tells the type of a number, if it is in the table and of one of these kinds.
func find(types []api.Type, typ int64, kinds ...uint8) (api.Type, bool) {
	at := typ - api.FirstType
	if at < 0 || at >= int64(len(types)) || !slices.Contains(kinds, types[at].Kind) {
		return api.Type{}, false
	}
	return types[at], true
}

// ofOp is the effect of those that have the same one always.
func ofOp(op uint8) effect {
	switch op {
	case api.OpTrue, api.OpFalse:
		return take().put(api.Bool)
	case api.OpGet:
		return take().put(anyType)
	case api.OpPut, api.OpPop:
		return take(anyType)
	case api.OpDup:
		return take(anyType).put(anyType, anyType)
	case api.OpFlip:
		return take(api.Bool).put(api.Bool)
	case api.OpCat:
		return take(api.Text, api.Text).put(api.Text)
	case api.OpSize:
		return take(api.Text).put(api.I64)
	case api.OpCharAt:
		return take(api.Text, api.I64).put(api.I32)
	case api.OpCut:
		return take(api.Text, api.I64, api.I64).put(api.Text)
	case api.OpByte:
		return take(api.I32).put(api.Text)
	}
	return take(api.Bool) // OpUnless, OpWhen
}

// ofWidth is the effect of those whose types are numbers of a width, or which take and put nothing.
func ofWidth(x api.Instr) effect {
	a := int(x.A)
	switch x.Op {
	case api.OpI8:
		return take().put(api.I8)
	case api.OpI32:
		return take().put(api.I32)
	case api.OpI64:
		return take().put(api.I64)
	case api.OpAdd, api.OpSub, api.OpMul, api.OpDiv, api.OpRem, api.OpAnd, api.OpOr, api.OpXor, api.OpShl, api.OpShr:
		return take(a, a).put(a)
	case api.OpNeg, api.OpNot:
		return take(a).put(a)
	case api.OpEq, api.OpNe, api.OpLt, api.OpLe, api.OpGt, api.OpGe:
		return take(a, a).put(api.Bool)
	case api.OpConv:
		return take(a).put(int(x.B))
	case api.OpSwitch:
		return take(a)
	}
	return effect{} // OpJump, OpReturn, OpTrap
}
