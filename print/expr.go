package print

import (
	"trammel/api"
	"trammel/lex"
)

// The lines of expressions, from the loosest on.
const (
	lineEither = iota
	lineBoth
	lineRel
	lineSum
	lineProduct
	lineUnary
	lineTight // all that has no sign of its own
)

// signOf tells the sign of an expression of that kind, and its line.
func signOf(kind uint8) (string, int) {
	switch kind {
	case api.XEither:
		return "||", lineEither
	case api.XBoth:
		return "&&", lineBoth
	case api.XEq:
		return "==", lineRel
	case api.XNe:
		return "!=", lineRel
	case api.XLt:
		return "<", lineRel
	case api.XLe:
		return "<=", lineRel
	case api.XGt:
		return ">", lineRel
	case api.XGe:
		return ">=", lineRel
	case api.XAdd:
		return "+", lineSum
	case api.XSub:
		return "-", lineSum
	case api.XOr:
		return "|", lineSum
	case api.XXor:
		return "^", lineSum
	case api.XMul:
		return "*", lineProduct
	case api.XDiv:
		return "/", lineProduct
	case api.XRem:
		return "%", lineProduct
	case api.XAnd:
		return "&", lineProduct
	case api.XShl:
		return "<<", lineProduct
	case api.XShr:
		return ">>", lineProduct
	case api.XNeg:
		return "-", lineUnary
	case api.XNot:
		return "~", lineUnary
	case api.XFlip:
		return "!", lineUnary
	}
	return "", lineTight
}

func (w *writer) expr(n api.Node) {
	switch sign, line := signOf(n.Kind); line {
	case lineTight:
		w.tight(n)
	case lineUnary:
		w.put(sign)
		w.operand(n.Kids[0], lineUnary)
	case lineRel: // two of its signs do not go in a row
		w.between(n, sign, lineSum, lineSum)
	default: // a row of signs leans to the left
		w.between(n, sign, line, line+1)
	}
}

// between writes a sign between two parts, which want these lines.
func (w *writer) between(n api.Node, sign string, left, right int) {
	w.operand(n.Kids[0], left)
	w.put(" ", sign, " ")
	w.operand(n.Kids[1], right)
}

// operand writes a part that wants a line.
func (w *writer) operand(n api.Node, wants int) {
	if _, line := signOf(n.Kind); line < wants {
		w.enclosed(n)
		return
	}
	w.expr(n)
}

// tight writes an expression that has no sign of its own.
func (w *writer) tight(n api.Node) {
	switch n.Kind {
	case api.XInt:
		w.number(n.N, n.Text)
	case api.XText:
		w.quote(n.Text)
	case api.XTrue:
		w.put("true")
	case api.XFalse:
		w.put("false")
	case api.XName:
		w.put(n.Text)
	case api.XNew:
		w.put("new ")
		w.typeOf(n.Kids[0])
		w.enclosed(n.Kids[1:]...)
	case api.XField:
		w.operand(n.Kids[0], lineTight)
		w.put(".", n.Text)
	case api.XAt:
		w.operand(n.Kids[0], lineTight)
		w.put("[")
		w.expr(n.Kids[1])
		w.put("]")
	default:
		w.put(wordOf(n))
		w.enclosed(n.Kids...)
	}
}

// quote writes a text in quotes. They make it no shorter, so one without room is not quoted first.
func (w *writer) quote(text string) {
	if w.room(text) {
		w.put(lex.Quote(text))
	}
}

// wordOf tells what stands ahead of the ( of a call, or of what is written like one.
func wordOf(n api.Node) string {
	switch n.Kind {
	case api.XLen:
		return "len"
	case api.XCut:
		return "cut"
	case api.XByte:
		return "byte"
	case api.XPop:
		return "pop"
	case api.XPush:
		return "push"
	}
	return n.Text // XCall, XConv
}
