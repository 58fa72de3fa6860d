package parse

import "trammel/api"

// The lines of the grammar with signs between two operands, from the loosest on, and the one behind them.
const (
	lineExpr = iota
	lineBoth
	lineRel
	lineSum
	lineProduct
	lineUnary
)

func (r *reader) expr() api.Node { return r.line(lineExpr) }

// line reads what a line of the grammar tells; a row of its signs leans to the left.
func (r *reader) line(line int) api.Node {
	if line == lineUnary {
		return r.unary()
	}
	n := r.line(line + 1)
	for {
		kind, of := between(r.next())
		if kind == 0 || of != line {
			return n
		}
		at := r.take().At
		n = api.Node{Kind: kind, At: at, Kids: []api.Node{n, r.line(line + 1)}}
		if line == lineRel { // two of its signs do not go in a row
			return n
		}
	}
}

// between tells the kind of node that a token makes of two operands, and its line; of a token that makes none, 0.
func between(t api.Token) (uint8, int) {
	if t.Kind != api.TokSign {
		return 0, 0
	}
	switch t.Text {
	case "||":
		return api.XEither, lineExpr
	case "&&":
		return api.XBoth, lineBoth
	case "==":
		return api.XEq, lineRel
	case "!=":
		return api.XNe, lineRel
	case "<":
		return api.XLt, lineRel
	case "<=":
		return api.XLe, lineRel
	case ">":
		return api.XGt, lineRel
	case ">=":
		return api.XGe, lineRel
	case "+":
		return api.XAdd, lineSum
	case "-":
		return api.XSub, lineSum
	case "|":
		return api.XOr, lineSum
	case "^":
		return api.XXor, lineSum
	case "*":
		return api.XMul, lineProduct
	case "/":
		return api.XDiv, lineProduct
	case "%":
		return api.XRem, lineProduct
	case "&":
		return api.XAnd, lineProduct
	case "<<":
		return api.XShl, lineProduct
	case ">>":
		return api.XShr, lineProduct
	}
	return 0, 0
}

func (r *reader) unary() api.Node {
	var kind uint8
	switch {
	case r.sign("-"):
		kind = api.XNeg
	case r.sign("~"):
		kind = api.XNot
	case r.sign("!"):
		kind = api.XFlip
	default:
		return r.tails(r.primary())
	}
	sign := r.take()
	r.enter(sign)
	n := api.Node{Kind: kind, At: sign.At, Kids: []api.Node{r.unary()}}
	r.leave()
	return n
}

// tails reads the fields and places that stand behind a part, and tells the part with them.
func (r *reader) tails(n api.Node) api.Node {
	for {
		switch {
		case r.sign("."):
			r.take()
			name := r.need(r.name())
			n = api.Node{Kind: api.XField, At: name.At, Text: name.Text, Kids: []api.Node{n}}
		case r.sign("["):
			at := r.open("[").At
			n = api.Node{Kind: api.XAt, At: at, Kids: []api.Node{n, r.expr()}}
			r.shut("]")
		default:
			return n
		}
	}
}

func (r *reader) primary() api.Node {
	switch {
	case r.number():
		return r.whole()
	case r.next().Kind == api.TokText:
		t := r.take()
		return api.Node{Kind: api.XText, At: t.At, Text: t.Text}
	case r.sign("("):
		r.open("(")
		n := r.expr()
		r.shut(")")
		return n
	case r.word("true"):
		return api.Node{Kind: api.XTrue, At: r.take().At}
	case r.word("false"):
		return api.Node{Kind: api.XFalse, At: r.take().At}
	case r.word("new"):
		at := r.take().At
		kids := []api.Node{r.typeOf()}
		return api.Node{Kind: api.XNew, At: at, Kids: append(kids, r.perhaps((*reader).expr)...)}
	}
	return r.given()
}

// given reads a call, a name, or what the language gives like a call.
func (r *reader) given() api.Node {
	switch {
	case r.word("i8", "i32", "i64"):
		width := r.next().Text
		n := r.withValues(api.XConv, 1)
		n.Text = width
		return n
	case r.word("len"):
		return r.withValues(api.XLen, 1)
	case r.word("cut"):
		return r.withValues(api.XCut, 3)
	case r.word("byte"):
		return r.withValues(api.XByte, 1)
	case r.word("pop"):
		return r.withValues(api.XPop, 1)
	}
	return r.nameOrCall()
}

// withValues reads a kept word, and so many exprs in parentheses.
func (r *reader) withValues(kind uint8, count int) api.Node {
	n := api.Node{Kind: kind, At: r.take().At}
	r.open("(")
	for i := range count {
		if i > 0 {
			r.need(r.sign(","))
		}
		n.Kids = append(n.Kids, r.expr())
	}
	r.shut(")")
	return n
}

func (r *reader) nameOrCall() api.Node {
	n := r.usedName()
	if r.sign("(") {
		n.Kind = api.XCall
		n.Kids = r.perhaps((*reader).expr)
	}
	return n
}

func (r *reader) usedName() api.Node {
	name := r.need(r.name())
	return api.Node{Kind: api.XName, At: name.At, Text: name.Text}
}

// whole reads a number.
func (r *reader) whole() api.Node {
	t := r.need(r.number())
	return api.Node{Kind: api.XInt, At: t.At, Text: t.Text, N: t.N}
}
