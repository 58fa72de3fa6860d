package lower

import (
	"cmp"
	"slices"

	"trammel/api"
)

// walker goes through a function, and puts the lines of each of its terms.
type walker struct {
	builder
	program api.Program
	texts   pool
	turns   []turn // those that it came to; check.Valid sees to it that each stands at its number
}

// turn is where one leaves an SLoop or SSwitch, and where one goes on with an SLoop.
type turn struct{ out, next int }

// function puts the lines of a function. flow.Check sees to it that the trap is never come to.
func (w *walker) function(f api.Func) {
	w.stmt(f.Body)
	if len(f.Results) == 0 {
		w.put(instr(api.OpReturn))
	} else {
		w.put(instr(api.OpTrap, 0))
	}
}

func (w *walker) stmt(t api.Term) {
	switch t.Op {
	case api.SBlock:
		for _, kid := range t.Kids {
			w.stmt(kid)
		}
	case api.SIf:
		w.branch(t.Kids[0], t.Kids[1], t.Kids[2])
	case api.SLoop:
		w.loop(t.Kids[0], t.Kids[1], t.Kids[2])
	case api.SSwitch:
		last := len(t.Kids) - 1
		w.choice(t.Kids[0], t.Kids[last], t.Kids[1:last]...)
	case api.SBreak:
		w.put(to(api.OpJump, w.turns[t.N].out))
	case api.SNext:
		w.put(to(api.OpJump, w.turns[t.N].next))
	case api.SPuts:
		last := len(t.Kids) - 1
		w.puts(t.Kids[last], t.Kids[:last]...)
	case api.SDo:
		w.drop(t.Kids[0])
	default:
		w.values(t.Kids...)
		w.put(behindStmt(t))
	}
}

// behindStmt tells what stands behind the parts of a statement that leads nowhere within its function.
func behindStmt(t api.Term) api.Line {
	switch t.Op {
	case api.SPut:
		return instr(api.OpPut, t.N)
	case api.SField:
		return instr(api.OpSetField, firstType(t), t.N)
	case api.SAt:
		return instr(api.OpSetAt, firstType(t))
	case api.SPush:
		return instr(api.OpPush, firstType(t))
	case api.STrap:
		return instr(api.OpTrap, t.N)
	}
	return instr(api.OpReturn)
}

// puts puts the results of a call into slots: the last result lies topmost.
func (w *walker) puts(call api.Term, slots ...api.Term) {
	w.value(call)
	for _, slot := range slices.Backward(slots) {
		w.put(instr(api.OpPut, slot.N))
	}
}

// drop does a call for nothing of its results.
func (w *walker) drop(call api.Term) {
	w.value(call)
	for range w.program.Funcs[call.N].Results {
		w.put(instr(api.OpPop))
	}
}

func (w *walker) branch(test, then, otherwise api.Term) {
	other, out := w.label(), w.label()
	w.value(test)
	w.put(to(api.OpUnless, other))
	w.stmt(then)
	w.put(to(api.OpJump, out), at(other))
	w.stmt(otherwise)
	w.put(at(out))
}

func (w *walker) loop(test, body, third api.Term) {
	top, next, out := w.label(), w.label(), w.label()
	w.turns = append(w.turns, turn{out: out, next: next})
	w.put(at(top))
	if test.Op != api.XTrue {
		w.value(test)
		w.put(to(api.OpUnless, out))
	}
	w.stmt(body)
	w.put(at(next))
	w.stmt(third)
	w.put(to(api.OpJump, top), at(out))
}

func (w *walker) choice(value, other api.Term, cases ...api.Term) {
	elsewhere, out := w.label(), w.label()
	w.turns = append(w.turns, turn{out: out})
	w.value(value)
	heads, arms := w.arms(cases...)
	w.put(api.Line{X: api.Instr{Op: api.OpSwitch, A: int64(value.Type), B: int64(elsewhere), Arms: arms}})
	for i, c := range cases {
		w.put(at(heads[i]))
		w.stmt(c.Kids[len(c.Kids)-1])
		w.put(to(api.OpJump, out))
	}
	w.put(at(elsewhere))
	w.stmt(other)
	w.put(at(out))
}

// arms tells a label for each SCase, and the arms of a switch, rising, that lead there.
func (w *walker) arms(cases ...api.Term) ([]int, []api.Arm) {
	var heads []int
	var arms []api.Arm
	for _, c := range cases {
		head := w.label()
		heads = append(heads, head)
		for _, number := range c.Kids[:len(c.Kids)-1] {
			arms = append(arms, api.Arm{Value: number.N, To: head})
		}
	}
	slices.SortFunc(arms, func(a, b api.Arm) int { return cmp.Compare(a.Value, b.Value) })
	return heads, arms
}
