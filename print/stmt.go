package print

import "trammel/api"

// stmt writes the lines of a statement.
func (w *writer) stmt(n api.Node) {
	w.indent()
	switch n.Kind {
	case api.NBlock:
		w.block(n)
	case api.NIf:
		w.branch(n)
	case api.NWhile, api.NFor, api.NSwitch:
		w.turn(n)
	default:
		w.plain(n)
		w.put(";")
	}
	w.put("\n")
}

// inner writes statements one deeper.
func (w *writer) inner(stmts ...api.Node) {
	w.deep++
	for _, n := range stmts {
		w.stmt(n)
	}
	w.deep--
}

// block writes a block from its { to its }, which others may stand ahead of and behind in their lines.
func (w *writer) block(n api.Node) {
	w.put("{\n")
	w.inner(n.Kids...)
	w.indent()
	w.put("}")
}

// plain writes a statement that stands ahead of a ; without it; of an NNone nothing.
func (w *writer) plain(n api.Node) {
	switch n.Kind {
	case api.NVar:
		w.put("var ")
		w.set(n)
	case api.NSet:
		w.set(n)
	case api.NDo:
		w.expr(n.Kids[0])
	case api.NBreak:
		w.away("break", n.Text)
	case api.NContinue:
		w.away("continue", n.Text)
	case api.NReturn:
		w.put("return")
		if len(n.Kids) > 0 {
			w.put(" ")
			w.list(n.Kids...)
		}
	case api.NTrap:
		w.put("trap ")
		w.number(n.N, "")
	}
}

// set writes what is put to, and the value, which is the last Kid.
func (w *writer) set(n api.Node) {
	last := len(n.Kids) - 1
	w.list(n.Kids[:last]...)
	w.put(" = ")
	w.expr(n.Kids[last])
}

func (w *writer) away(word, label string) {
	w.put(word)
	if label != "" {
		w.put(" ", label)
	}
}

func (w *writer) branch(n api.Node) {
	w.put("if ")
	w.expr(n.Kids[0])
	w.put(" ")
	w.block(n.Kids[1])
	if len(n.Kids) < 3 {
		return
	}
	w.put(" else ")
	if otherwise := n.Kids[2]; otherwise.Kind == api.NIf {
		w.branch(otherwise)
	} else {
		w.block(otherwise)
	}
}

// turn writes a loop or a switch.
func (w *writer) turn(n api.Node) {
	if n.Text != "" {
		w.put(n.Text, ": ")
	}
	switch n.Kind {
	case api.NWhile:
		w.put("while ")
		w.expr(n.Kids[0])
		w.put(" ")
		w.block(n.Kids[1])
	case api.NFor:
		w.rounds(n.Kids[0], n.Kids[1], n.Kids[2], n.Kids[3])
	case api.NSwitch:
		w.choice(n.Kids[0], n.Kids[1:]...)
	}
}

func (w *writer) rounds(first, test, step, body api.Node) {
	w.put("for ")
	w.plain(first)
	w.put("; ")
	if test.Kind != api.NNone {
		w.expr(test)
	}
	w.put("; ")
	w.plain(step)
	w.put(" ")
	w.block(body)
}

func (w *writer) choice(value api.Node, arms ...api.Node) {
	w.put("switch ")
	w.expr(value)
	w.put(" {\n")
	for _, arm := range arms {
		w.arm(arm)
	}
	w.indent()
	w.put("}")
}

// arm writes the lines of a case, or of default: as deep as its switch.
func (w *writer) arm(n api.Node) {
	last := len(n.Kids) - 1
	w.indent()
	if n.Kind == api.NCase {
		w.put("case ")
		w.list(n.Kids[:last]...)
	} else {
		w.put("default")
	}
	w.put(":\n")
	w.inner(n.Kids[last].Kids...)
}
