package check

import (
	"fmt"
	"strings"

	"trammel/api"
	"trammel/kinds"
)

// asks is the chapter's table of expressions, of those that ask for types alone: what the parts may be, and what comes of them. A
// letter is a type: 1, 2, 3 the ints, b bool, t bytes, F a Fixed, G a Grow; e is the elements' type of the first part, c the type
// that the Text names.
var asks = map[uint8]string{
	api.XTrue: ">b", api.XFalse: ">b", api.XText: ">t",
	api.XConv: "1>c 2>c 3>c",
	api.XAt:   "F3>e G3>e t3>2",
	api.XLen:  "F>3 G>3 t>3", api.XCut: "t33>t", api.XByte: "2>t",
	api.XPop: "G>e",
	api.XNeg: "1>1 2>2 3>3", api.XNot: "1>1 2>2 3>3", api.XFlip: "b>b",
	api.XAdd: "11>1 22>2 33>3 tt>t",
	api.XSub: "11>1 22>2 33>3", api.XMul: "11>1 22>2 33>3", api.XDiv: "11>1 22>2 33>3", api.XRem: "11>1 22>2 33>3",
	api.XAnd: "11>1 22>2 33>3", api.XOr: "11>1 22>2 33>3", api.XXor: "11>1 22>2 33>3", api.XShl: "11>1 22>2 33>3", api.XShr: "11>1 22>2 33>3",
	api.XEq: "11>b 22>b 33>b bb>b tt>b", api.XNe: "11>b 22>b 33>b bb>b tt>b",
	api.XLt: "11>b 22>b 33>b", api.XLe: "11>b 22>b 33>b", api.XGt: "11>b 22>b 33>b", api.XGe: "11>b 22>b 33>b",
	api.XBoth: "bb>b", api.XEither: "bb>b",
}

// letters are the types' letters, by Kinds.
const letters = "?123btRFG"

// plainType tells by the table of what type an expression is; 0, if its parts are not those that it asks for.
func plainType(types []api.Type, op uint8, named int, parts ...int) int {
	text, elem := "", 0
	for i, typ := range parts {
		t, _ := kinds.Get(types, typ)
		text += letters[t.Kind : t.Kind+1]
		if i == 0 {
			elem = t.Elem
		}
	}
	for _, form := range strings.Fields(asks[op]) {
		want, result, _ := strings.Cut(form, ">")
		switch {
		case want != text:
		case result == "e":
			return elem
		case result == "c":
			return named
		default:
			return strings.Index(letters, result)
		}
	}
	return 0
}

// plainFault is what is wrong, and where; the second reading ends by it at once.
type plainFault struct {
	place int
	wrong api.Errno
}

// plainProgram is a second reading of P8.1.
func plainProgram(n api.Node) (p api.Program, place int, wrong api.Errno) {
	k, place, wrong := kinds.Of(n)
	if wrong != api.OK {
		return p, place, wrong
	}
	defer func() {
		if f, ok := recover().(plainFault); ok {
			p, place, wrong = api.Program{}, f.place, f.wrong
		}
	}()
	r := &plainReader{k: k, types: k.Types(), heads: map[string]plainHead{}}
	var funcs []api.Node
	for _, f := range n.Kids {
		if f.Kind == api.NFunc {
			r.head(f, len(funcs))
			funcs = append(funcs, f)
		}
	}
	p.Types = r.types
	for _, f := range funcs {
		p.Funcs = append(p.Funcs, r.function(f))
	}
	return p, 0, api.OK
}

type plainHead struct {
	place           int
	params, results []int
}

// plainReader knows names by a list of what was declared, which is cut at the end of each block.
type plainReader struct {
	k       *kinds.Table
	types   []api.Type
	heads   map[string]plainHead
	results []int
	slots   []int
	names   []string // at the slot's number; with a block's number and / ahead; empty, if its block has ended
	blocks  []string // of those that are open, their numbers
	opened  int
	turns   []plainTurn
	entered int64
}

type plainTurn struct {
	label string
	loop  bool
	n     int64
}

func (r *plainReader) wrong(place int, wrong api.Errno) { panic(plainFault{place, wrong}) }

func (r *plainReader) head(f api.Node, place int) {
	if place >= 256 {
		r.wrong(f.At, api.ErrLimit)
	}
	if _, twice := r.heads[f.Text]; twice {
		r.wrong(f.At, api.ErrTwice)
	}
	h := plainHead{place: place}
	for i, param := range f.Kids[0].Kids {
		if i >= 32 {
			r.wrong(param.At, api.ErrLimit)
		}
		h.params = append(h.params, r.k.Find(param.Kids[0]))
	}
	for i, typ := range f.Kids[1].Kids {
		if i >= 8 {
			r.wrong(typ.At, api.ErrLimit)
		}
		h.results = append(h.results, r.k.Find(typ))
	}
	r.heads[f.Text] = h
}

func (r *plainReader) function(f api.Node) api.Func {
	h := r.heads[f.Text]
	r.results, r.slots, r.names, r.blocks, r.opened, r.turns, r.entered = h.results, nil, nil, []string{"0"}, 0, nil, 0
	for i, param := range f.Kids[0].Kids {
		r.declare(param, h.params[i])
	}
	nodes := 0
	eachNode(&f, func(*api.Node) { nodes++ })
	body := r.stmt(f.Kids[2])
	return api.Func{Name: f.Text, Params: h.params, Results: h.results, Slots: r.slots, Body: body, Nodes: nodes}
}

func (r *plainReader) declare(name api.Node, typ int) int64 {
	full := r.blocks[len(r.blocks)-1] + "/" + name.Text
	for _, had := range r.names {
		if had == full {
			r.wrong(name.At, api.ErrTwice)
		}
	}
	if len(r.slots) >= 256 {
		r.wrong(name.At, api.ErrLocals)
	}
	r.names, r.slots = append(r.names, full), append(r.slots, typ)
	return int64(len(r.slots) - 1)
}

// find tells the slot of a name; below 0, if nothing has it.
func (r *plainReader) find(name string) int {
	for i := len(r.blocks) - 1; i >= 0; i-- {
		for slot, had := range r.names {
			if had == r.blocks[i]+"/"+name {
				return slot
			}
		}
	}
	return -1
}

// within does something in a block more.
func (r *plainReader) within(do func()) {
	r.opened++
	r.blocks = append(r.blocks, fmt.Sprint(r.opened))
	do()
	r.blocks = r.blocks[:len(r.blocks)-1]
}

// turning does something in a turn more, and tells its number.
func (r *plainReader) turning(n api.Node, loop bool, do func()) int64 {
	for _, t := range r.turns {
		if n.Text != "" && t.label == n.Text {
			r.wrong(n.At, api.ErrTwice)
		}
	}
	number := r.entered
	r.entered++
	r.turns = append(r.turns, plainTurn{n.Text, loop, number})
	do()
	r.turns = r.turns[:len(r.turns)-1]
	return number
}

func (r *plainReader) stmts(list []api.Node) []api.Term {
	var out []api.Term
	for _, n := range list {
		if n.Kind != api.NNone {
			out = append(out, r.stmt(n))
		}
	}
	return out
}

func (r *plainReader) test(n, test api.Node) api.Term {
	t := r.value(test)
	if t.Type != 4 {
		r.wrong(n.At, api.ErrOperand)
	}
	return t
}

func (r *plainReader) stmt(n api.Node) (t api.Term) {
	last := len(n.Kids) - 1
	switch n.Kind {
	case api.NBlock:
		t.Op = api.SBlock
		r.within(func() { t.Kids = r.stmts(n.Kids) })
	case api.NVar, api.NSet:
		return r.puts(n, n.Kids[:last], n.Kids[last])
	case api.NDo:
		if n.Kids[0].Kind == api.XCall {
			call, _ := r.call(n.Kids[0])
			return api.Term{Op: api.SDo, Kids: []api.Term{call}}
		}
		t = api.Term{Op: api.SPush, Kids: r.values(n.Kids[0].Kids)}
		if elem := plainType(r.types, api.XPop, 0, t.Kids[0].Type); elem == 0 || elem != t.Kids[1].Type {
			r.wrong(n.Kids[0].At, api.ErrOperand)
		}
	case api.NIf:
		t = api.Term{Op: api.SIf, Kids: []api.Term{r.test(n, n.Kids[0]), r.stmt(n.Kids[1]), {Op: api.SBlock}}}
		if last == 2 && n.Kids[2].Kind == api.NBlock {
			t.Kids[2] = r.stmt(n.Kids[2])
		} else if last == 2 {
			t.Kids[2].Kids = []api.Term{r.stmt(n.Kids[2])}
		}
	case api.NWhile:
		t.Op = api.SLoop
		t.N = r.turning(n, true, func() { t.Kids = []api.Term{r.test(n, n.Kids[0]), r.stmt(n.Kids[1]), {Op: api.SBlock}} })
	case api.NFor:
		t.Op = api.SBlock
		r.within(func() {
			t.Kids = r.stmts(n.Kids[:1])
			t.Kids = append(t.Kids, r.plainFor(n))
		})
	case api.NSwitch:
		return r.plainSwitch(n)
	case api.NBreak, api.NContinue:
		return r.leap(n)
	case api.NReturn:
		t = api.Term{Op: api.SReturn, Kids: r.values(n.Kids)}
		if fmt.Sprint(typesIn(t.Kids)) != fmt.Sprint(r.results) {
			r.wrong(n.At, api.ErrArgs)
		}
	case api.NTrap:
		return api.Term{Op: api.STrap, N: int64(n.N)}
	}
	return t
}

func (r *plainReader) plainFor(n api.Node) api.Term {
	loop := api.Term{Op: api.SLoop}
	loop.N = r.turning(n, true, func() {
		test := api.Term{Op: api.XTrue, Type: 4}
		if n.Kids[1].Kind != api.NNone {
			test = r.test(n, n.Kids[1])
		}
		third := api.Term{Op: api.SBlock, Kids: r.stmts(n.Kids[2:3])}
		loop.Kids = []api.Term{test, r.stmt(n.Kids[3]), third}
	})
	return loop
}

func (r *plainReader) plainSwitch(n api.Node) api.Term {
	value := r.value(n.Kids[0])
	bits := []int{0, 8, 32, 64, 0, 0}
	if value.Type > 3 {
		r.wrong(n.At, api.ErrOperand)
	}
	width := bits[value.Type]
	t := api.Term{Op: api.SSwitch, Kids: []api.Term{value}}
	other := api.Term{Op: api.SBlock}
	had := map[string]int{} // by the bits, as digits
	t.N = r.turning(n, false, func() {
		for _, arm := range n.Kids[1:] {
			if arm.Kind == api.NDefault {
				other = r.stmt(arm.Kids[0])
				continue
			}
			c := api.Term{Op: api.SCase}
			for _, x := range arm.Kids[:len(arm.Kids)-1] {
				number, named, written := x.N, x.Text, x.N
				if x.Kind == api.XNeg {
					number, named, written = ^x.Kids[0].N+1, x.Kids[0].Text, x.Kids[0].N
				}
				low := fmt.Sprintf("%064b", number)[64-width:]
				if named != "" && named != fmt.Sprint("i", width) || len(fmt.Sprintf("%b", written)) > width || had[low] > 0 {
					r.wrong(x.At, api.ErrCase)
				}
				had[low]++
				c.Kids = append(c.Kids, api.Term{Op: api.XInt, Type: value.Type, N: int64(number) << (64 - width) >> (64 - width)})
			}
			c.Kids = append(c.Kids, r.stmt(arm.Kids[len(arm.Kids)-1]))
			t.Kids = append(t.Kids, c)
		}
	})
	t.Kids = append(t.Kids, other)
	return t
}

func (r *plainReader) leap(n api.Node) api.Term {
	op, loops := api.SBreak, false
	if n.Kind == api.NContinue {
		op, loops = api.SNext, true
	}
	for i := len(r.turns) - 1; i >= 0; i-- {
		t := r.turns[i]
		if (n.Text == "" || t.label == n.Text) && (t.loop || !loops) {
			return api.Term{Op: op, N: t.n}
		}
	}
	r.wrong(n.At, api.ErrLabel)
	return api.Term{}
}

// puts reads an NVar or NSet.
func (r *plainReader) puts(n api.Node, targets []api.Node, value api.Node) api.Term {
	if len(targets) > 1 {
		return r.putsSeveral(n, targets, value)
	}
	if n.Kind == api.NVar {
		v := r.value(value)
		return api.Term{Op: api.SPut, N: r.declare(targets[0], v.Type), Kids: []api.Term{v}}
	}
	t := r.value(targets[0])
	if t.Op == api.XAt && t.Kids[0].Type == 5 {
		r.wrong(targets[0].At, api.ErrTarget)
	}
	v := r.value(value)
	if v.Type != t.Type {
		r.wrong(n.At, api.ErrOperand)
	}
	op := map[uint8]uint8{api.XName: api.SPut, api.XField: api.SField, api.XAt: api.SAt}[t.Op]
	return api.Term{Op: op, N: t.N, Kids: append(t.Kids, v)}
}

func (r *plainReader) putsSeveral(n api.Node, targets []api.Node, value api.Node) api.Term {
	if value.Kind != api.XCall {
		r.wrong(n.At, api.ErrArgs)
	}
	t := api.Term{Op: api.SPuts}
	var types []int
	if n.Kind == api.NSet {
		for _, name := range r.values(targets) {
			t.Kids = append(t.Kids, api.Term{Op: api.SSlot, N: name.N})
			types = append(types, name.Type)
		}
	}
	call, results := r.call(value)
	if len(results) != len(targets) || n.Kind == api.NSet && fmt.Sprint(types) != fmt.Sprint(results) {
		r.wrong(n.At, api.ErrArgs)
	}
	if n.Kind == api.NVar {
		for i, name := range targets {
			t.Kids = append(t.Kids, api.Term{Op: api.SSlot, N: r.declare(name, results[i])})
		}
	}
	t.Kids = append(t.Kids, call)
	return t
}

func typesIn(list []api.Term) []int {
	var types []int
	for _, t := range list {
		types = append(types, t.Type)
	}
	return types
}

func (r *plainReader) values(list []api.Node) []api.Term {
	var out []api.Term
	for _, n := range list {
		out = append(out, r.value(n))
	}
	return out
}

func (r *plainReader) call(n api.Node) (api.Term, []int) {
	h, ok := r.heads[n.Text]
	if !ok {
		r.wrong(n.At, api.ErrName)
	}
	t := api.Term{Op: api.XCall, N: int64(h.place), Kids: r.values(n.Kids)}
	if fmt.Sprint(typesIn(t.Kids)) != fmt.Sprint(h.params) {
		r.wrong(n.At, api.ErrArgs)
	}
	if len(h.results) == 1 {
		t.Type = h.results[0]
	}
	return t, h.results
}

func (r *plainReader) value(n api.Node) api.Term {
	t := api.Term{Op: n.Kind}
	width := map[string]int{"i8": 1, "i32": 2, "i64": 3, "": 3}[n.Text]
	switch n.Kind {
	case api.XInt:
		shift := []int{0, 56, 32, 0}[width]
		return api.Term{Op: n.Kind, Type: width, N: int64(n.N<<shift) >> shift}
	case api.XText:
		t.Text = n.Text
	case api.XName:
		slot := r.find(n.Text)
		if slot < 0 {
			r.wrong(n.At, api.ErrName)
		}
		return api.Term{Op: n.Kind, Type: r.slots[slot], N: int64(slot)}
	case api.XCall:
		t, results := r.call(n)
		if len(results) != 1 {
			r.wrong(n.At, api.ErrArgs)
		}
		return t
	case api.XNew:
		return r.plainNew(n)
	case api.XField:
		t.Kids = r.values(n.Kids)
		whole, _ := kinds.Get(r.types, t.Kids[0].Type)
		if whole.Kind != 6 {
			r.wrong(n.At, api.ErrOperand)
		}
		for i, f := range whole.Fields {
			if f.Name == n.Text {
				t.N, t.Type = int64(i), f.Type
				return t
			}
		}
		r.wrong(n.At, api.ErrName)
	}
	t.Kids = r.values(n.Kids)
	t.Type = plainType(r.types, n.Kind, width, typesIn(t.Kids)...)
	if t.Type == 0 {
		r.wrong(n.At, api.ErrOperand)
	}
	return t
}

func (r *plainReader) plainNew(n api.Node) api.Term {
	t := api.Term{Op: api.XNew, Type: r.k.Find(n.Kids[0]), Kids: r.values(n.Kids[1:])}
	whole, _ := kinds.Get(r.types, t.Type)
	var want []int
	switch whole.Kind {
	case 6:
		for _, f := range whole.Fields {
			want = append(want, f.Type)
		}
	case 7:
		want = []int{whole.Elem}
	case 8:
	default:
		r.wrong(n.At, api.ErrArgs)
	}
	if fmt.Sprint(typesIn(t.Kids)) != fmt.Sprint(want) {
		r.wrong(n.At, api.ErrArgs)
	}
	return t
}
