package check

import (
	"trammel/api"
	"trammel/scope"
)

// walker goes through a function. Once something is wrong, what it tells has no meaning any more.
type walker struct {
	*scope.Scope
	*maker
	results []int // of the function
}

// local declares the name of a parameter or variable, and tells its slot.
func (w *walker) local(name api.Node, typ int) int64 {
	slot, wrong := w.Declare(name.Text, typ)
	w.ask(wrong == api.OK, name.At, wrong)
	return int64(slot)
}

// stmts tells the terms of statements, one behind the other.
func (w *walker) stmts(list ...api.Node) []api.Term {
	var terms []api.Term
	for _, n := range list {
		if w.wrong != api.OK {
			return nil
		}
		terms = append(terms, w.stmt(n))
	}
	return terms
}

func (w *walker) stmt(n api.Node) api.Term {
	switch n.Kind {
	case api.NBlock:
		return w.block(n)
	case api.NVar:
		return w.variables(n)
	case api.NSet:
		return w.set(n)
	case api.NDo:
		return w.do(n.Kids[0])
	case api.NIf:
		return w.branch(n)
	case api.NWhile:
		return w.while(n)
	case api.NFor:
		return w.forLoop(n)
	case api.NSwitch:
		return w.switchOver(n)
	case api.NBreak:
		return w.leap(api.SBreak, n)
	case api.NContinue:
		return w.leap(api.SNext, n)
	case api.NReturn:
		return w.giveBack(n)
	}
	return api.Term{Op: api.STrap, N: int64(n.N)}
}

func (w *walker) block(n api.Node) api.Term {
	w.Open()
	t := term(api.SBlock, w.stmts(n.Kids...)...)
	w.Close()
	return t
}

// variables tells the term of an NVar: the value is gone through ahead of the names, which it can't mean.
func (w *walker) variables(n api.Node) api.Term {
	names, value := n.Kids[:len(n.Kids)-1], n.Kids[len(n.Kids)-1]
	if len(names) == 1 {
		v := w.value(value)
		return numbered(api.SPut, w.local(names[0], v.Type), v)
	}
	w.ask(value.Kind == api.XCall, n.At, api.ErrArgs)
	call := w.call(value)
	types := w.resultsOf(call.N)
	w.ask(len(types) == len(names), n.At, api.ErrArgs)
	var slots []api.Term
	for i, name := range names {
		if w.wrong != api.OK {
			return api.Term{}
		}
		slots = append(slots, numbered(api.SSlot, w.local(name, types[i])))
	}
	return term(api.SPuts, append(slots, call)...)
}

// set tells the term of an NSet.
func (w *walker) set(n api.Node) api.Term {
	if len(n.Kids) > 2 {
		return w.setSeveral(n)
	}
	t, typ := w.target(n.Kids[0])
	v := w.value(n.Kids[1])
	w.ask(v.Type == typ, n.At, api.ErrOperand)
	t.Kids = append(t.Kids, v)
	return t
}

// target tells the statement that puts to a target, still without the value, and the type that this must have.
func (w *walker) target(n api.Node) (api.Term, int) {
	t := w.value(n)
	switch t.Op {
	case api.XName:
		return numbered(api.SPut, t.N), t.Type
	case api.XField:
		return numbered(api.SField, t.N, t.Kids...), t.Type
	case api.XAt:
		w.ask(t.Kids[0].Type != api.Text, n.At, api.ErrTarget)
	}
	return term(api.SAt, t.Kids...), t.Type
}

// setSeveral tells the term of an NSet of several names.
func (w *walker) setSeveral(n api.Node) api.Term {
	names, value := n.Kids[:len(n.Kids)-1], n.Kids[len(n.Kids)-1]
	w.ask(value.Kind == api.XCall, n.At, api.ErrArgs)
	targets := w.values(names...)
	call := w.call(value)
	w.ask(are(typesOf(targets...), w.resultsOf(call.N)...), n.At, api.ErrArgs)
	var slots []api.Term
	for _, t := range targets {
		slots = append(slots, numbered(api.SSlot, t.N))
	}
	return term(api.SPuts, append(slots, call)...)
}

// do tells the term of what stands in an NDo: a call, or an XPush.
func (w *walker) do(n api.Node) api.Term {
	if n.Kind == api.XCall {
		return term(api.SDo, w.call(n))
	}
	parts := w.values(n.Kids...)
	w.ask(w.pushes(parts...), n.At, api.ErrOperand)
	return term(api.SPush, parts...)
}

func (w *walker) giveBack(n api.Node) api.Term {
	values := w.values(n.Kids...)
	w.ask(are(typesOf(values...), w.results...), n.At, api.ErrArgs)
	return term(api.SReturn, values...)
}

// term makes a term that is no value.
func term(op uint8, kids ...api.Term) api.Term { return api.Term{Op: op, Kids: kids} }

// numbered makes a term that is no value and has a number.
func numbered(op uint8, n int64, kids ...api.Term) api.Term {
	return api.Term{Op: op, N: n, Kids: kids}
}
