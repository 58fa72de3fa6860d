package linear

import (
	"strconv"
	"strings"

	"trammel/api"
	"trammel/ops"
)

// writer writes lines one behind the other.
type writer struct{ strings.Builder }

// put writes texts, one right behind the other.
func (w *writer) put(texts ...string) {
	for _, s := range texts {
		w.WriteString(s)
	}
}

func (w *writer) line(x api.Line) {
	if x.X.Op == 0 {
		w.put(label(int64(x.Label)), ":\n")
		return
	}
	w.put("\t", ops.Name(x.X.Op))
	w.behind(x.X)
	w.put("\n")
}

// behind writes what stands behind an Op.
func (w *writer) behind(x api.Instr) {
	switch x.Op {
	case api.OpJump, api.OpUnless, api.OpWhen:
		w.put(" ", label(x.A))
	case api.OpSwitch:
		w.put(" ", number(x.A))
		for _, arm := range x.Arms {
			w.put(" ", number(arm.Value), ":", label(int64(arm.To)))
		}
		w.put(" ", label(x.B))
	default:
		for _, n := range []int64{x.A, x.B}[:numbersOf(x.Op)] {
			w.put(" ", number(n))
		}
	}
}

func label(n int64) string { return "L" + number(n) }

func number(n int64) string { return strconv.FormatInt(n, 10) }

// numbersOf tells how many numbers stand behind an Op. That is asked of ops, with 1, which each of them may be.
func numbersOf(op uint8) int {
	switch {
	case ops.Size(api.Instr{Op: op, A: 1, B: 1}) > 0:
		return 2
	case ops.Size(api.Instr{Op: op, A: 1}) > 0:
		return 1
	}
	return 0
}
