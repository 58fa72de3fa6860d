package check

import (
	"slices"

	"trammel/api"
	"trammel/kinds"
	"trammel/lex"
)

// plainValid is a second reading of P8.2: it lays all terms of a body in one list, with what each stands in, and asks each of the
// chapter's words of each of them for itself.
func plainValid(p api.Program) api.Errno {
	for _, f := range p.Funcs {
		if plainCount(f.Body, 65536) > 65536 {
			return api.ErrLimit
		}
	}
	if kinds.Check(p.Types) != api.OK || len(p.Funcs) > 256 {
		return api.ErrTree
	}
	for i, f := range p.Funcs {
		for _, ahead := range p.Funcs[:i] {
			if ahead.Name == f.Name {
				return api.ErrTree
			}
		}
		if !lex.Name(f.Name) || !plainHeadFits(p, f) {
			return api.ErrTree
		}
		body := &plainBody{p: p, f: f}
		body.lay(f.Body, -1, 0)
		if !body.fits() {
			return api.ErrTree
		}
	}
	return api.OK
}

func plainCount(t api.Term, most int) int {
	count := 1
	for _, k := range t.Kids {
		if count > most {
			break
		}
		count += plainCount(k, most-count)
	}
	return count
}

func plainHeadFits(p api.Program, f api.Func) bool {
	if len(f.Params) > 32 || len(f.Results) > 8 || len(f.Slots) > 256 || len(f.Slots) < len(f.Params) || f.Nodes < 0 {
		return false
	}
	for i, typ := range f.Params {
		if f.Slots[i] != typ {
			return false
		}
	}
	for _, typ := range slices.Concat(f.Params, f.Results, f.Slots) {
		if _, ok := kinds.Get(p.Types, typ); !ok {
			return false
		}
	}
	return true
}

// plainItem is a term, the place in the list of the one that it is a Kid of (below 0, if of none), and the how manieth.
type plainItem struct {
	api.Term
	in, at int
}

type plainBody struct {
	p     api.Program
	f     api.Func
	items []plainItem
}

func (b *plainBody) lay(t api.Term, in, at int) {
	place := len(b.items)
	b.items = append(b.items, plainItem{t, in, at})
	for i, k := range t.Kids {
		b.lay(k, place, i)
	}
}

func (b *plainBody) fits() bool {
	turns := int64(0)
	for i, x := range b.items {
		if !b.isWhatIsAsked(x) || !b.hasItsKids(x) || !b.isPlain(x) || !b.isTyped(x) || !b.isNumbered(i) {
			return false
		}
		if x.Op == api.SLoop || x.Op == api.SSwitch {
			if x.N != turns {
				return false
			}
			turns++
		}
	}
	return true
}

var (
	plainSimple = []uint8{api.SPut, api.SPuts, api.SField, api.SAt, api.SDo, api.SPush}
	plainStmts  = append([]uint8{api.SBlock, api.SIf, api.SLoop, api.SSwitch, api.SBreak, api.SNext, api.SReturn, api.STrap}, plainSimple...)
)

func isValueOp(op uint8) bool { return op >= 40 && op <= 77 && op != 54 && op != 58 && op != 59 }

// isWhatIsAsked: may a term of that kind stand there?
func (b *plainBody) isWhatIsAsked(x plainItem) bool {
	if x.in < 0 {
		return x.Op == api.SBlock
	}
	in := b.items[x.in]
	last := x.at == len(in.Kids)-1
	switch in.Op {
	case api.SBlock:
		if in.in >= 0 && b.items[in.in].Op == api.SLoop && in.at == 2 {
			return slices.Contains(plainSimple, x.Op) && x.at == 0
		}
		return slices.Contains(plainStmts, x.Op)
	case api.SPuts:
		return last && x.Op == api.XCall || !last && x.Op == api.SSlot
	case api.SDo:
		return x.Op == api.XCall
	case api.SIf, api.SLoop:
		if x.at > 0 {
			return x.Op == api.SBlock
		}
	case api.SSwitch:
		if x.at > 0 {
			return last && x.Op == api.SBlock || !last && x.Op == api.SCase
		}
	case api.SCase:
		return last && x.Op == api.SBlock || !last && x.Op == api.XInt
	}
	// all else is a value, and a call among these has one result
	return isValueOp(x.Op) && (x.Op != api.XCall || x.N >= 0 && x.N < int64(len(b.p.Funcs)) && len(b.p.Funcs[x.N].Results) == 1)
}

// hasItsKids: has it as many Kids as its kind has? (Of XCall, XNew, SReturn the types tell.)
func (b *plainBody) hasItsKids(x plainItem) bool {
	n := len(x.Kids)
	switch x.Op {
	case api.SBlock, api.SReturn, api.XCall, api.XNew:
		return true
	case api.SPuts:
		return n >= 3
	case api.SSwitch, api.SCase:
		return n >= 2
	case api.XInt, api.XText, api.XTrue, api.XFalse, api.XName, api.SSlot, api.SBreak, api.SNext, api.STrap:
		return n == 0
	case api.SPut, api.SDo, api.XConv, api.XField, api.XLen, api.XByte, api.XPop, api.XNeg, api.XNot, api.XFlip:
		return n == 1
	case api.SAt, api.SIf, api.SLoop, api.XCut:
		return n == 3
	}
	return n == 2
}

// isPlain: is all empty or 0 that is not told of its kind?
func (b *plainBody) isPlain(x plainItem) bool {
	with := []uint8{api.XInt, api.XName, api.XCall, api.XField, api.SPut, api.SField, api.SLoop, api.SSwitch, api.SBreak, api.SNext, api.STrap, api.SSlot}
	return (x.N == 0 || slices.Contains(with, x.Op)) && (x.Text == "" || x.Op == api.XText) && (x.Type == 0 || isValueOp(x.Op))
}

// slot tells the type of a slot; 0, if there is none.
func (b *plainBody) slot(n int64) int {
	if n < 0 || n >= int64(len(b.f.Slots)) {
		return 0
	}
	return b.f.Slots[n]
}

// isTyped: has it the type that the tables tell, and have its Kids those that it asks for?
func (b *plainBody) isTyped(x plainItem) bool {
	parts := typesIn(x.Kids)
	part := func(i int) int { return slices.Concat(parts, []int{0, 0, 0})[i] }
	whole, _ := kinds.Get(b.p.Types, part(0))
	field := 0
	if whole.Kind == 6 && x.N >= 0 && x.N < int64(len(whole.Fields)) {
		field = whole.Fields[x.N].Type
	}
	switch x.Op {
	case api.XInt:
		least := []int64{0, -1 << 7, -1 << 31, -1 << 63}
		return x.Type >= 1 && x.Type <= 3 && x.N >= least[x.Type] && x.N <= -(least[x.Type]+1)
	case api.XName:
		return x.Type != 0 && x.Type == b.slot(x.N)
	case api.XCall:
		return b.isCall(x)
	case api.XNew:
		made, _ := kinds.Get(b.p.Types, x.Type)
		var want []int
		for _, f := range made.Fields {
			want = append(want, f.Type)
		}
		if made.Kind == 7 {
			want = []int{made.Elem}
		}
		return made.Kind >= 6 && slices.Equal(parts, want)
	case api.XConv:
		return x.Type >= 1 && x.Type <= 3 && part(0) >= 1 && part(0) <= 3
	case api.XField:
		return field != 0 && x.Type == field
	case api.SPut:
		return b.slot(x.N) != 0 && b.slot(x.N) == part(0)
	case api.SSlot:
		return b.slot(x.N) != 0
	case api.SPuts:
		var types []int
		for _, k := range x.Kids[:len(x.Kids)-1] {
			types = append(types, b.slot(k.N))
		}
		call := x.Kids[len(x.Kids)-1]
		return call.N >= 0 && call.N < int64(len(b.p.Funcs)) && slices.Equal(types, b.p.Funcs[call.N].Results)
	case api.SField:
		return field != 0 && field == part(1)
	case api.SAt:
		return (whole.Kind == 7 || whole.Kind == 8) && part(1) == 3 && part(2) == whole.Elem
	case api.SPush:
		return whole.Kind == 8 && part(1) == whole.Elem
	case api.SIf, api.SLoop:
		return part(0) == 4
	case api.SReturn:
		return slices.Equal(parts, b.f.Results)
	case api.SSwitch:
		return b.isSwitch(x)
	case api.STrap:
		return x.N >= 0 && x.N <= 255
	}
	if !isValueOp(x.Op) {
		return true
	}
	typ := plainType(b.p.Types, x.Op, x.Type, parts...)
	return typ != 0 && typ == x.Type
}

func (b *plainBody) isCall(x plainItem) bool {
	if x.N < 0 || x.N >= int64(len(b.p.Funcs)) {
		return false
	}
	f := b.p.Funcs[x.N]
	want := 0
	if len(f.Results) == 1 {
		want = f.Results[0]
	}
	return x.Type == want && slices.Equal(typesIn(x.Kids), f.Params)
}

func (b *plainBody) isSwitch(x plainItem) bool {
	var numbers []int64
	for _, c := range x.Kids[1 : len(x.Kids)-1] {
		if len(c.Kids) == 0 {
			return false
		}
		for _, k := range c.Kids[:len(c.Kids)-1] {
			if k.Type != x.Kids[0].Type || slices.Contains(numbers, k.N) {
				return false
			}
			numbers = append(numbers, k.N)
		}
	}
	return x.Kids[0].Type >= 1 && x.Kids[0].Type <= 3
}

// isNumbered: is what its number means around it, or ahead of it?
func (b *plainBody) isNumbered(i int) bool {
	x := b.items[i]
	if x.Op != api.SBreak && x.Op != api.SNext && x.Op != api.XName {
		return true
	}
	if x.Op == api.XName && x.N < int64(len(b.f.Params)) {
		return true
	}
	for x.in >= 0 {
		in := b.items[x.in]
		turn := in.Op == api.SLoop || in.Op == api.SSwitch && b.items[i].Op == api.SBreak
		if b.items[i].Op != api.XName && turn && in.N == b.items[i].N {
			return true
		}
		if b.items[i].Op == api.XName && in.Op == api.SBlock && slices.ContainsFunc(in.Kids[:x.at], func(t api.Term) bool { return putsTo(t, b.items[i].N) }) {
			return true
		}
		x = in
	}
	return false
}

// putsTo: is the term an SPut or SPuts to that slot?
func putsTo(t api.Term, slot int64) bool {
	if t.Op == api.SPut {
		return t.N == slot
	}
	return t.Op == api.SPuts && slices.ContainsFunc(t.Kids, func(k api.Term) bool { return k.Op == api.SSlot && k.N == slot })
}
