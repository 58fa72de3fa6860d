package eval

import (
	"math/big"

	"trammel/api"
	"trammel/flow"
)

// A second reading of the chapter: terms are worked out by calls of Go, one within the other, over values of Go (int64, bool, string,
// *piece), numbers are reckoned without a bound and wrapped behind it, and what a run makes is counted apart from it.

type cell any

// piece is a record or an array.
type piece struct{ cells []cell }

// reading is a run.
type reading struct {
	api.Program
	rules, used int64
	frames      int
	made        int // what the heap came to
}

// ending is why a run ends ahead of its function.
type ending struct {
	trap  int
	wrong api.Errno
}

// leap is how a statement ends: where it leads (SBreak, SNext, SReturn; 0, if it goes on behind it), and with which results.
type leap struct {
	op      uint8
	turn    int64
	results []cell
}

// plain tells what Run and Heap answer.
func plain(p api.Program, f int, args []int64, rules int64) (a api.Answer, words int, wrong api.Errno) {
	if wrong := plainRefusal(p, f, args); wrong != api.OK {
		return a, 0, wrong
	}
	r := &reading{Program: p, rules: rules}
	defer func() {
		switch e := recover().(type) {
		case nil:
		case ending:
			a, words, wrong = api.Answer{}, 0, e.wrong
			if e.wrong == api.OK {
				a, words = api.Answer{Trap: e.trap, Steps: int(r.used)}, r.made
			}
		default:
			panic(e)
		}
	}()
	var given []cell
	for i, typ := range p.Funcs[f].Params {
		if typ == api.Bool {
			given = append(given, args[i] == 1)
		} else {
			given = append(given, args[i])
		}
	}
	results := r.call(f, given)
	for i, x := range results {
		a.Values = append(a.Values, r.tell(p.Funcs[f].Results[i], x))
	}
	a.Steps = int(r.used)
	return a, r.made, api.OK
}

func plainRefusal(p api.Program, f int, args []int64) api.Errno {
	if _, wrong := flow.Check(p); wrong != api.OK {
		return wrong
	}
	if f < 0 || f >= len(p.Funcs) {
		return api.ErrFunc
	}
	if len(args) != len(p.Funcs[f].Params) {
		return api.ErrCount
	}
	least := map[int]int64{api.I8: -1 << 7, api.I32: -1 << 31, api.I64: -1 << 63, api.Bool: 0}
	most := map[int]int64{api.I8: 1<<7 - 1, api.I32: 1<<31 - 1, api.I64: 1<<63 - 1, api.Bool: 1}
	wrong := api.OK
	for i, typ := range p.Funcs[f].Params {
		if _, ok := least[typ]; !ok {
			return api.ErrKind
		}
		if args[i] < least[typ] || args[i] > most[typ] {
			wrong = api.ErrFits
		}
	}
	return wrong
}

func (r *reading) tell(typ int, x cell) api.Value {
	switch x := x.(type) {
	case int64:
		return api.Value{Kind: uint8(typ), N: x}
	case bool:
		if x {
			return api.Value{Kind: api.Bool, N: 1}
		}
		return api.Value{Kind: api.Bool}
	case string:
		return api.Value{Kind: api.Text, Text: x}
	}
	return api.Value{Kind: r.Types[typ-api.FirstType].Kind, N: int64(len(x.(*piece).cells))}
}

func (r *reading) trap(number int) { panic(ending{trap: number}) }

func (r *reading) begin() {
	if r.used++; r.used > r.rules {
		panic(ending{wrong: api.ErrFuel})
	}
}

func (r *reading) pay(cost int) {
	if r.made+cost > api.MaxHeap {
		r.trap(api.TrapMemory)
	}
	r.made += cost
}

func (r *reading) call(f int, args []cell) []cell {
	if r.frames == api.MaxCalls {
		r.trap(api.TrapDepth)
	}
	r.frames++
	slots := make([]cell, len(r.Funcs[f].Slots))
	copy(slots, args)
	end := r.stmt(r.Funcs[f].Body, slots)
	r.frames--
	return end.results
}

// calling works out an XCall.
func (r *reading) calling(t api.Term, slots []cell) []cell {
	r.begin()
	return r.call(int(t.N), r.values(t.Kids, slots))
}

func (r *reading) values(list []api.Term, slots []cell) []cell {
	var cells []cell
	for _, t := range list {
		cells = append(cells, r.value(t, slots))
	}
	return cells
}

func (r *reading) stmt(t api.Term, slots []cell) leap {
	r.begin()
	kids := t.Kids
	switch t.Op {
	case api.SBlock:
		for _, k := range kids {
			if end := r.stmt(k, slots); end.op != 0 {
				return end
			}
		}
	case api.SPut:
		slots[t.N] = r.value(kids[0], slots)
	case api.SPuts:
		last := len(kids) - 1
		results := r.calling(kids[last], slots)
		for i := last - 1; i >= 0; i-- {
			slots[kids[i].N] = results[i]
		}
	case api.SField:
		parts := r.values(kids, slots)
		parts[0].(*piece).cells[t.N] = parts[1]
	case api.SAt:
		parts := r.values(kids, slots)
		*r.element(parts[0].(*piece), parts[1].(int64)) = parts[2]
	case api.SDo:
		r.calling(kids[0], slots)
	case api.SPush:
		r.push(r.values(kids, slots))
	case api.SIf:
		if r.value(kids[0], slots).(bool) {
			return r.stmt(kids[1], slots)
		}
		return r.stmt(kids[2], slots)
	case api.SLoop:
		return r.loop(t, slots)
	case api.SSwitch:
		return r.choice(t, slots)
	case api.SBreak, api.SNext:
		return leap{op: t.Op, turn: t.N}
	case api.SReturn:
		return leap{op: t.Op, results: r.values(kids, slots)}
	case api.STrap:
		r.trap(100 + int(t.N))
	default:
		panic("no statement")
	}
	return leap{}
}

func (r *reading) loop(t api.Term, slots []cell) leap {
	for r.value(t.Kids[0], slots).(bool) {
		end := r.stmt(t.Kids[1], slots)
		switch {
		case end.op == api.SBreak && end.turn == t.N:
			return leap{}
		case end.op != 0 && !(end.op == api.SNext && end.turn == t.N):
			return end
		}
		r.stmt(t.Kids[2], slots)
	}
	return leap{}
}

func (r *reading) choice(t api.Term, slots []cell) leap {
	number := r.value(t.Kids[0], slots).(int64)
	block := t.Kids[len(t.Kids)-1]
	for _, c := range t.Kids[1 : len(t.Kids)-1] {
		for _, x := range c.Kids[:len(c.Kids)-1] {
			if x.N == number {
				block = c.Kids[len(c.Kids)-1]
			}
		}
	}
	end := r.stmt(block, slots)
	if end.op == api.SBreak && end.turn == t.N {
		return leap{}
	}
	return end
}

func (r *reading) push(parts []cell) {
	array := parts[0].(*piece)
	if len(array.cells) == api.MaxArray {
		r.trap(api.TrapSize)
	}
	r.pay(1)
	array.cells = append(array.cells, parts[1])
}

func (r *reading) element(array *piece, at int64) *cell {
	if at < 0 || at >= int64(len(array.cells)) {
		r.trap(api.TrapIndex)
	}
	return &array.cells[at]
}

func (r *reading) text(s string) string {
	if len(s) > api.MaxText {
		r.trap(api.TrapSize)
	}
	r.pay(1 + (len(s)+7)/8)
	return s
}

func (r *reading) value(t api.Term, slots []cell) cell {
	if t.Op == api.XCall {
		return r.calling(t, slots)[0]
	}
	r.begin()
	if t.Op == api.XBoth || t.Op == api.XEither {
		left := r.value(t.Kids[0], slots).(bool)
		if left == (t.Op == api.XEither) {
			return left
		}
		return r.value(t.Kids[1], slots)
	}
	parts := r.values(t.Kids, slots)
	switch t.Op {
	case api.XInt:
		return t.N
	case api.XText:
		return t.Text
	case api.XTrue, api.XFalse:
		return t.Op == api.XTrue
	case api.XName:
		return slots[t.N]
	case api.XNew:
		return r.create(r.Types[t.Type-api.FirstType], parts)
	case api.XFlip:
		return !parts[0].(bool)
	}
	switch x := parts[0].(type) {
	case *piece:
		return r.inside(t, x, parts[1:])
	case string:
		return r.ofText(t, x, parts[1:])
	case bool:
		return (x == parts[1].(bool)) == (t.Op == api.XEq)
	}
	return r.ofNumbers(t, parts)
}

func (r *reading) create(typ api.Type, parts []cell) cell {
	switch typ.Kind {
	case api.Record:
		r.pay(1 + len(parts))
		return &piece{parts}
	case api.Fixed:
		r.pay(1 + typ.Len)
		x := &piece{}
		for range typ.Len {
			x.cells = append(x.cells, parts[0])
		}
		return x
	}
	r.pay(1)
	return &piece{}
}

func (r *reading) inside(t api.Term, x *piece, more []cell) cell {
	last := len(x.cells) - 1
	switch t.Op {
	case api.XField:
		return x.cells[t.N]
	case api.XAt:
		return *r.element(x, more[0].(int64))
	case api.XLen:
		return int64(len(x.cells))
	}
	if last < 0 {
		r.trap(api.TrapEmpty)
	}
	word := x.cells[last]
	x.cells = x.cells[:last]
	return word
}

func (r *reading) ofText(t api.Term, x string, more []cell) cell {
	switch t.Op {
	case api.XAt:
		at := more[0].(int64)
		if at < 0 || at >= int64(len(x)) {
			r.trap(api.TrapIndex)
		}
		return int64(x[at])
	case api.XLen:
		return int64(len(x))
	case api.XCut:
		from, to := more[0].(int64), more[1].(int64)
		if from < 0 || from > to || to > int64(len(x)) {
			r.trap(api.TrapIndex)
		}
		return r.text(x[from:to])
	case api.XAdd:
		return r.text(x + more[0].(string))
	}
	return (x == more[0].(string)) == (t.Op == api.XEq)
}

func (r *reading) ofNumbers(t api.Term, parts []cell) cell {
	bits := map[int]uint{api.I8: 8, api.I32: 32, api.I64: 64}[t.Kids[0].Type]
	a, n := big.NewInt(parts[0].(int64)), new(big.Int)
	switch t.Op {
	case api.XConv:
		return wrapped(map[int]uint{api.I8: 8, api.I32: 32, api.I64: 64}[t.Type], a)
	case api.XByte:
		if a.Sign() < 0 || a.Cmp(big.NewInt(256)) >= 0 {
			r.trap(api.TrapByte)
		}
		return r.text(string([]byte{byte(a.Int64())}))
	case api.XNeg:
		return wrapped(bits, n.Neg(a))
	case api.XNot:
		return wrapped(bits, n.Not(a))
	}
	b := big.NewInt(parts[1].(int64))
	switch order := a.Cmp(b); t.Op {
	case api.XEq:
		return order == 0
	case api.XNe:
		return order != 0
	case api.XLt:
		return order < 0
	case api.XLe:
		return order <= 0
	case api.XGt:
		return order > 0
	case api.XGe:
		return order >= 0
	}
	return wrapped(bits, r.reckon(t.Op, bits, a, b))
}

func (r *reading) reckon(op uint8, bits uint, a, b *big.Int) *big.Int {
	n := new(big.Int)
	if (op == api.XDiv || op == api.XRem) && b.Sign() == 0 {
		r.trap(api.TrapDiv)
	}
	by := uint(new(big.Int).And(b, big.NewInt(int64(bits)-1)).Uint64())
	switch op {
	case api.XAdd:
		return n.Add(a, b)
	case api.XSub:
		return n.Sub(a, b)
	case api.XMul:
		return n.Mul(a, b)
	case api.XDiv:
		return n.Quo(a, b)
	case api.XRem:
		return n.Rem(a, b)
	case api.XAnd:
		return n.And(a, b)
	case api.XOr:
		return n.Or(a, b)
	case api.XXor:
		return n.Xor(a, b)
	case api.XShl:
		return n.Lsh(a, by)
	case api.XShr:
		return n.Rsh(a, by)
	}
	panic("no value")
}

// wrapped tells the number of so many bits that differs by a multiple of 2^bits.
func wrapped(bits uint, n *big.Int) int64 {
	whole := new(big.Int).Lsh(big.NewInt(1), bits)
	n = new(big.Int).Mod(n, whole)
	if n.Bit(int(bits)-1) == 1 {
		n.Sub(n, whole)
	}
	return n.Int64()
}
