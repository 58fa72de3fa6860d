package parse

import "trammel/api"

func (r *reader) block() api.Node {
	n := api.Node{Kind: api.NBlock, At: r.open("{").At}
	n.Kids = r.stmts()
	r.shut("}")
	return n
}

// stmts reads all statements up to a token that ends a block or a case; none of those begins a statement.
func (r *reader) stmts() []api.Node {
	var list []api.Node
	for r.wrong == api.OK && !r.sign("}") && !r.word("case", "default") {
		list = append(list, r.stmt())
	}
	return list
}

func (r *reader) stmt() api.Node {
	switch {
	case r.sign("{"):
		return r.block()
	case r.word("if"):
		return r.branch()
	case r.word("while", "for", "switch"):
		return r.turn("")
	case r.label():
		label := r.take().Text
		r.take()
		return r.turn(label)
	}
	n := r.plain()
	r.need(r.sign(";"))
	return n
}

// plain reads a statement behind which a ; stands, without it.
func (r *reader) plain() api.Node {
	switch {
	case r.word("break"):
		return r.away(api.NBreak)
	case r.word("continue"):
		return r.away(api.NContinue)
	case r.word("return"):
		n := api.Node{Kind: api.NReturn, At: r.take().At}
		if !r.sign(";") {
			n.Kids = r.list((*reader).expr)
		}
		return n
	case r.word("trap"):
		at := r.take().At
		return api.Node{Kind: api.NTrap, At: at, N: r.need(r.count() && r.next().N <= maxTrap).N}
	}
	return r.varOrSimple()
}

// maxTrap is the greatest number that a trap statement may have.
const maxTrap = 255

// away reads a break or continue, and the label that may stand there.
func (r *reader) away(kind uint8) api.Node {
	n := api.Node{Kind: kind, At: r.take().At}
	if r.name() {
		n.Text = r.take().Text
	}
	return n
}

func (r *reader) varOrSimple() api.Node {
	if !r.word("var") {
		return r.simple()
	}
	at := r.take().At
	names := r.list((*reader).newName)
	r.need(r.sign("="))
	return api.Node{Kind: api.NVar, At: at, Kids: append(names, r.expr())}
}

func (r *reader) newName() api.Node {
	name := r.need(r.name())
	return api.Node{Kind: api.NWord, At: name.At, Text: name.Text}
}

func (r *reader) simple() api.Node {
	if r.word("push") {
		return do(r.withValues(api.XPush, 2))
	}
	target := r.tails(r.nameOrCall())
	if target.Kind == api.XCall {
		return do(target)
	}
	targets := []api.Node{target}
	for target.Kind == api.XName && r.sign(",") { // names alone may stand in a row
		r.take()
		targets = append(targets, r.usedName())
	}
	at := r.need(r.sign("=")).At
	return api.Node{Kind: api.NSet, At: at, Kids: append(targets, r.expr())}
}

func do(call api.Node) api.Node {
	return api.Node{Kind: api.NDo, At: call.At, Kids: []api.Node{call}}
}

func (r *reader) branch() api.Node {
	at := r.take().At
	n := api.Node{Kind: api.NIf, At: at, Kids: []api.Node{r.expr(), r.block()}}
	if !r.word("else") {
		return n
	}
	otherwise := r.take()
	if !r.word("if") {
		n.Kids = append(n.Kids, r.block())
		return n
	}
	r.enter(otherwise)
	n.Kids = append(n.Kids, r.branch())
	r.leave()
	return n
}

// turn reads a loop or a switch that has that label.
func (r *reader) turn(label string) api.Node {
	word := r.need(r.word("while", "for", "switch"))
	n := api.Node{At: word.At, Text: label}
	switch word.Text {
	case "while":
		n.Kind, n.Kids = api.NWhile, []api.Node{r.expr(), r.block()}
	case "for":
		n.Kind, n.Kids = api.NFor, r.rounds()
	case "switch":
		n.Kind, n.Kids = api.NSwitch, r.choice()
	}
	return n
}

// rounds reads what stands behind a for.
func (r *reader) rounds() []api.Node {
	first := r.unless(";", (*reader).varOrSimple)
	r.need(r.sign(";"))
	test := r.unless(";", (*reader).expr)
	r.need(r.sign(";"))
	step := r.unless("{", (*reader).simple)
	return []api.Node{first, test, step, r.block()}
}

// unless reads a part in whose place a sign may stand, which is not taken.
func (r *reader) unless(sign string, part func(*reader) api.Node) api.Node {
	if r.sign(sign) {
		return api.Node{Kind: api.NNone, At: r.next().At}
	}
	return part(r)
}

// choice reads what stands behind a switch.
func (r *reader) choice() []api.Node {
	kids := []api.Node{r.expr()}
	r.open("{")
	for r.word("case") {
		n := api.Node{Kind: api.NCase, At: r.take().At, Kids: r.list((*reader).constant)}
		n.Kids = append(n.Kids, r.arm())
		kids = append(kids, n)
	}
	if r.word("default") {
		at := r.take().At
		kids = append(kids, api.Node{Kind: api.NDefault, At: at, Kids: []api.Node{r.arm()}})
	}
	r.shut("}")
	return kids
}

// arm reads the colon of a case, or of default, and the statements behind it: a block without braces, so none is deeper.
func (r *reader) arm() api.Node {
	n := api.Node{Kind: api.NBlock, At: r.need(r.sign(":")).At}
	n.Kids = r.stmts()
	return n
}

// constant reads a case's number. Its - is no unary's: the number is not one deeper.
func (r *reader) constant() api.Node {
	if !r.sign("-") {
		return r.whole()
	}
	at := r.take().At
	return api.Node{Kind: api.XNeg, At: at, Kids: []api.Node{r.whole()}}
}
