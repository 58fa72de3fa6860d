package check

import "trammel/api"

// test tells the term of a test; n is the statement that asks for it.
func (w *walker) test(n, test api.Node) api.Term {
	t := w.value(test)
	w.ask(t.Type == api.Bool, n.At, api.ErrOperand)
	return t
}

// branch tells the term of an NIf.
func (w *walker) branch(n api.Node) api.Term {
	test := w.test(n, n.Kids[0])
	then := w.block(n.Kids[1])
	return term(api.SIf, test, then, w.otherwise(n.Kids[2:]...))
}

// otherwise tells the block of what stands behind an else, if something does.
func (w *walker) otherwise(parts ...api.Node) api.Term {
	if len(parts) > 0 && parts[0].Kind == api.NBlock {
		return w.block(parts[0])
	}
	return term(api.SBlock, w.stmts(parts...)...)
}

// enter enters a loop or switch, and tells its number.
func (w *walker) enter(n api.Node, turns bool) int64 {
	number, wrong := w.Enter(n.Text, turns)
	w.ask(wrong == api.OK, n.At, wrong)
	return int64(number)
}

func (w *walker) while(n api.Node) api.Term {
	number := w.enter(n, true)
	test := w.test(n, n.Kids[0])
	body := w.block(n.Kids[1])
	w.Leave()
	return numbered(api.SLoop, number, test, body, term(api.SBlock))
}

// forLoop tells the term of an NFor: a block, in which the first part's names are known.
func (w *walker) forLoop(n api.Node) api.Term {
	w.Open()
	parts := w.stmts(present(n.Kids[0])...)
	number := w.enter(n, true)
	test := api.Term{Op: api.XTrue, Type: api.Bool}
	if n.Kids[1].Kind != api.NNone {
		test = w.test(n, n.Kids[1])
	}
	third := term(api.SBlock, w.stmts(present(n.Kids[2])...)...)
	body := w.block(n.Kids[3])
	w.Leave()
	w.Close()
	return term(api.SBlock, append(parts, numbered(api.SLoop, number, test, body, third))...)
}

// present tells those of an NFor's parts that are there.
func present(parts ...api.Node) []api.Node {
	var list []api.Node
	for _, n := range parts {
		if n.Kind != api.NNone {
			list = append(list, n)
		}
	}
	return list
}

func (w *walker) switchOver(n api.Node) api.Term {
	value := w.value(n.Kids[0])
	w.ask(isInt(value.Type), n.At, api.ErrOperand)
	number := w.enter(n, false)
	kids := []api.Term{value}
	other := term(api.SBlock)
	numbers := map[int64]struct{}{}
	for _, arm := range n.Kids[1:] {
		if arm.Kind == api.NDefault {
			other = w.block(arm.Kids[0])
			continue
		}
		kids = append(kids, w.arm(arm, value.Type, numbers))
	}
	w.Leave()
	return numbered(api.SSwitch, number, append(kids, other)...)
}

// arm tells the term of an NCase of a switch over that type, which has these numbers ahead of it; its own become some of them.
func (w *walker) arm(n api.Node, typ int, ahead map[int64]struct{}) api.Term {
	var kids []api.Term
	for _, constant := range n.Kids[:len(n.Kids)-1] {
		number, fits := caseNumber(constant, typ)
		_, twice := ahead[number]
		w.ask(fits && !twice, constant.At, api.ErrCase)
		ahead[number] = struct{}{}
		kids = append(kids, api.Term{Op: api.XInt, Type: typ, N: number})
	}
	return term(api.SCase, append(kids, w.block(n.Kids[len(n.Kids)-1]))...)
}

// caseNumber tells the number of a case (an XInt, or an XNeg of one) as one of a type; false, if its suffix is another one's, or the type has no such number.
func caseNumber(n api.Node, typ int) (int64, bool) {
	turned := n.Kind == api.XNeg
	if turned {
		n = n.Kids[0]
	}
	fits := (n.Text == "" || suffix(n.Text) == typ) && has(typ, n.N) // ahead of the -, which turns a number of the type
	number := n.N
	if turned {
		number = -number
	}
	return signed(typ, number), fits
}

// leap tells the term of an NBreak or NContinue.
func (w *walker) leap(op uint8, n api.Node) api.Term {
	to, wrong := w.Target(n.Text, op == api.SNext)
	w.ask(wrong == api.OK, n.At, wrong)
	return numbered(op, int64(to))
}
