package ops

import "trammel/api"

var names = [...]string{
	api.OpI8: "i8", api.OpI32: "i32", api.OpI64: "i64", api.OpTrue: "true", api.OpFalse: "false", api.OpText: "text",
	api.OpGet: "get", api.OpPut: "put", api.OpPop: "pop", api.OpDup: "dup",
	api.OpAdd: "add", api.OpSub: "sub", api.OpMul: "mul", api.OpDiv: "div", api.OpRem: "rem",
	api.OpAnd: "and", api.OpOr: "or", api.OpXor: "xor", api.OpShl: "shl", api.OpShr: "shr", api.OpNeg: "neg", api.OpNot: "not",
	api.OpEq: "eq", api.OpNe: "ne", api.OpLt: "lt", api.OpLe: "le", api.OpGt: "gt", api.OpGe: "ge",
	api.OpConv: "conv", api.OpFlip: "flip",
	api.OpCat: "cat", api.OpSize: "size", api.OpCharAt: "charat", api.OpCut: "cut", api.OpByte: "byte",
	api.OpNew: "new", api.OpField: "field", api.OpSetField: "setfield",
	api.OpFill: "fill", api.OpEmpty: "empty", api.OpAt: "at", api.OpSetAt: "setat", api.OpLen: "len", api.OpPush: "push", api.OpDrop: "drop",
	api.OpJump: "jump", api.OpUnless: "unless", api.OpWhen: "when", api.OpSwitch: "switch",
	api.OpCall: "call", api.OpReturn: "return", api.OpTrap: "trap",
}

// Name tells an instruction's name.
func Name(op uint8) string {
	if int(op) >= len(names) {
		return ""
	}
	return names[op]
}
