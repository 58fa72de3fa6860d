package parse

import "trammel/api"

// role is as what a node stands in a tree.
type role uint8

const (
	asWhole role = iota // what Check is asked about
	asItem              // of a program
	asField             // of a record; a parameter
	asParams
	asTypes
	asType
	asBlock
	asStmt
	asElse // of an if
	asFirst
	asTest
	asStep // of a for, as the two ahead
	asArm
	asLastArm
	asConst  // of a case
	asNumber // behind the - of an asConst
	asWord
	asTarget // what is put to, where it stands alone
	asBase   // what has a field or place that is put to
	asName
	asCall // what is done
	asExpr
)

// takes: may a node of that kind stand so?
func (as role) takes(kind uint8) bool {
	switch as {
	case asWhole:
		return kind == api.NProgram || isType(kind) || isStmt(kind) || isExpr(kind)
	case asItem:
		return kind == api.NRecord || kind == api.NFunc
	case asField:
		return kind == api.NField
	case asParams:
		return kind == api.NParams
	case asTypes:
		return kind == api.NTypes
	case asType:
		return isType(kind)
	case asBlock:
		return kind == api.NBlock
	case asStmt:
		return isStmt(kind)
	case asElse:
		return kind == api.NBlock || kind == api.NIf
	case asFirst:
		return kind == api.NVar || asStep.takes(kind)
	case asTest:
		return kind == api.NNone || isExpr(kind)
	case asStep:
		return kind == api.NSet || kind == api.NDo || kind == api.NNone
	case asArm:
		return kind == api.NCase
	case asLastArm:
		return kind == api.NCase || kind == api.NDefault
	case asConst:
		return kind == api.XInt || kind == api.XNeg
	case asNumber:
		return kind == api.XInt
	case asWord:
		return kind == api.NWord
	case asTarget:
		return kind == api.XName || kind == api.XField || kind == api.XAt
	case asBase:
		return kind == api.XCall || asTarget.takes(kind)
	case asName:
		return kind == api.XName
	case asCall:
		return kind == api.XCall || kind == api.XPush
	}
	return isExpr(kind)
}

func isType(kind uint8) bool {
	return kind == api.NNamed || kind == api.NFixed || kind == api.NGrow
}

func isStmt(kind uint8) bool {
	switch kind {
	case api.NBlock, api.NVar, api.NSet, api.NDo, api.NIf, api.NWhile, api.NFor, api.NSwitch,
		api.NBreak, api.NContinue, api.NReturn, api.NTrap:
		return true
	}
	return false
}

// isExpr: is it the kind of an expr? A push is none, though it stands among these.
func isExpr(kind uint8) bool {
	return kind >= api.XInt && kind <= api.XFlip && kind != api.XPush || kind >= api.XAdd && kind <= api.XEither
}
