package parse

import (
	"math"

	"trammel/api"
	"trammel/lex"
)

// Check tells whether a tree, whoever made it, may be one of a program, of an expr, of a type or of a stmt.
func Check(n api.Node) api.Errno {
	if !isSmall(n) {
		return api.ErrLimit
	}
	todo := []part{{Node: n, as: asWhole}} // a list, since trees may be deeper than calls should be
	for len(todo) > 0 {
		p := todo[len(todo)-1]
		todo = todo[:len(todo)-1]
		if !p.fits() {
			return api.ErrTree
		}
		for i, kid := range p.Kids {
			todo = append(todo, part{Node: kid, as: p.asks(i)})
		}
	}
	return api.OK
}

// isSmall: has a tree at most MaxNodes nodes? It may hold itself, so no more than these are looked at.
func isSmall(n api.Node) bool {
	left := api.MaxNodes - 1
	todo := [][]api.Node{n.Kids}
	for len(todo) > 0 {
		kids := todo[len(todo)-1]
		todo = todo[:len(todo)-1]
		if len(kids) > left {
			return false
		}
		left -= len(kids)
		for _, kid := range kids {
			todo = append(todo, kid.Kids)
		}
	}
	return true
}

// part is a node, and as what it stands where it stands.
type part struct {
	api.Node
	as role
}

// fits: may the node stand so, but for what its Kids are?
func (p part) fits() bool {
	least, most := kidsOf(p.Kind)
	return p.as.takes(p.Kind) && least <= len(p.Kids) && len(p.Kids) <= most && p.textFits() && p.numberFits()
}

// kidsOf tells how many Kids a node of a kind has at least, and at most.
func kidsOf(kind uint8) (int, int) {
	switch kind {
	case api.NProgram, api.NRecord, api.NParams, api.NTypes, api.NBlock, api.NReturn, api.XCall:
		return 0, math.MaxInt
	case api.NSwitch, api.XNew:
		return 1, math.MaxInt
	case api.NVar, api.NSet, api.NCase:
		return 2, math.MaxInt
	case api.NBreak, api.NContinue, api.NTrap, api.NNone, api.NWord, api.NNamed,
		api.XInt, api.XText, api.XTrue, api.XFalse, api.XName:
		return 0, 0
	case api.NField, api.NFixed, api.NGrow, api.NDo, api.NDefault,
		api.XConv, api.XField, api.XLen, api.XByte, api.XPop, api.XNeg, api.XNot, api.XFlip:
		return 1, 1
	case api.NIf:
		return 2, 3
	case api.NFunc, api.XCut:
		return 3, 3
	case api.NFor:
		return 4, 4
	}
	return 2, 2 // NWhile, XAt, XPush, and all that has a sign between two operands
}

func (p part) textFits() bool {
	switch p.Kind {
	case api.NRecord, api.NField, api.NFunc, api.NWord, api.XName, api.XCall, api.XField:
		return lex.Name(p.Text)
	case api.NWhile, api.NFor, api.NSwitch, api.NBreak, api.NContinue:
		return p.Text == "" || lex.Name(p.Text)
	case api.NNamed:
		return isInt(p.Text) || p.Text == "bool" || p.Text == "bytes" || lex.Name(p.Text)
	case api.XConv:
		return isInt(p.Text)
	case api.XInt:
		return p.Text == "" || isInt(p.Text)
	case api.XText:
		return true
	}
	return p.Text == ""
}

// isInt: is it the name of a type of ints, and so a number's suffix?
func isInt(s string) bool { return s == "i8" || s == "i32" || s == "i64" }

func (p part) numberFits() bool {
	switch p.Kind {
	case api.NFixed:
		return true
	case api.NTrap:
		return p.N <= maxTrap
	case api.XInt:
		return p.Text == "i8" && p.N <= math.MaxUint8 || p.Text == "i32" && p.N <= math.MaxUint32 || p.Text == "i64" || p.Text == ""
	}
	return p.N == 0
}

// asks tells as what the Kid of that number must stand.
func (p part) asks(i int) role {
	last := i == len(p.Kids)-1
	switch p.Kind {
	case api.NProgram:
		return asItem
	case api.NRecord, api.NParams:
		return asField
	case api.NField, api.NTypes, api.NFixed, api.NGrow:
		return asType
	case api.NFunc:
		return pick(i, asParams, asTypes, asBlock)
	case api.NBlock:
		return asStmt
	case api.NVar:
		return either(last, asExpr, asWord)
	case api.NSet:
		return either(last, asExpr, either(len(p.Kids) == 2, asTarget, asName)) // names alone may stand in a row
	case api.NDo:
		return asCall
	case api.NIf:
		return pick(i, asExpr, asBlock, asElse)
	case api.NWhile:
		return pick(i, asExpr, asBlock)
	case api.NFor:
		return pick(i, asFirst, asTest, asStep, asBlock)
	case api.NSwitch:
		return pick(i, asExpr, either(last, asLastArm, asArm))
	case api.NCase:
		return either(last, asBlock, asConst)
	case api.NDefault:
		return asBlock
	case api.XNew:
		return pick(i, asType, asExpr)
	case api.XField, api.XAt:
		return pick(i, either(p.as == asTarget || p.as == asBase, asBase, asExpr), asExpr)
	case api.XNeg:
		return either(p.as == asConst, asNumber, asExpr)
	}
	return asExpr
}

// pick tells the role of that number; of a number beyond, the last one.
func pick(i int, roles ...role) role { return roles[min(i, len(roles)-1)] }

func either(first bool, a, b role) role {
	if first {
		return a
	}
	return b
}
