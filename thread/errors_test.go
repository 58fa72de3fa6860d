package thread

import (
	"math"
	"testing"

	"trammel/api"
)

// isRefused holds all calls to Check's error, and to answering nothing else.
func isRefused(t *testing.T, l []api.Line, want api.Errno) {
	t.Helper()
	for _, n := range others {
		if got, err := Leads(l, n); got != 0 || err != want {
			t.Errorf("Leads(%s, %d) = %d, %d, want %d", tell(l), n, got, err, want)
		}
	}
	if got, err := Reached(l); len(got) > 0 || err != want {
		t.Errorf("Reached(%s) = %v, %d, want %d", tell(l), got, err, want)
	}
	if got, err := Thin(l); len(got) > 0 || err != want {
		t.Errorf("Thin(%s) = %s, %d, want %d", tell(l), tell(got), err, want)
	}
}

func TestP17Errors(t *testing.T) {
	badOp, badLabel, badTarget := do(53), at(-1), jump(9)
	for _, x := range []struct {
		l   []api.Line
		err api.Errno
	}{
		{row(badOp), api.ErrOp}, {row(do(api.OpTrue, 1)), api.ErrOp}, {row(do(api.OpI8, 128)), api.ErrOp}, {row(armed(yes())), api.ErrOp},
		{row(jump(-1)), api.ErrOp}, {row(jump(1 << 32)), api.ErrOp}, {row(choose(4, 0), at(0)), api.ErrOp}, {row(at(0), choose(1, 0, 128, 0)), api.ErrOp},
		{row(api.Line{X: api.Instr{A: 1}}), api.ErrOp}, {row(api.Line{X: api.Instr{B: -1}}), api.ErrOp}, {row(armed(at(0))), api.ErrOp},
		{row(api.Line{Label: 1, X: api.Instr{Op: api.OpTrue}}), api.ErrOp}, {row(at(1), api.Line{Label: 1, X: jump(1).X}), api.ErrOp},

		{row(badLabel), api.ErrLabels}, {row(at(1 << 31)), api.ErrLabels}, {row(at(math.MinInt)), api.ErrLabels}, {row(at(math.MaxInt)), api.ErrLabels},
		{row(at(0), at(0)), api.ErrLabels}, {row(at(3), yes(), at(3), back()), api.ErrLabels}, {row(at(0), jump(0), at(0)), api.ErrLabels},

		{row(badTarget), api.ErrLabels}, {row(when(0)), api.ErrLabels}, {row(do(api.OpUnless, 1), at(0)), api.ErrLabels}, {row(jump(1<<32-1), at(0)), api.ErrLabels},
		{row(at(1), choose(1, 1, 5, 0)), api.ErrLabels}, {row(at(0), choose(1, 1, 5, 0)), api.ErrLabels}, {row(choose(3, 0)), api.ErrLabels},
		{row(back(), badTarget), api.ErrLabels}, {row(back(), badOp), api.ErrOp}, {row(jump(0), badOp, at(0)), api.ErrOp}, // nor where nothing comes to

		{row(badOp, badLabel), api.ErrOp}, {row(badLabel, badOp), api.ErrLabels}, {row(badTarget, badOp), api.ErrOp},
		{row(at(0), at(0), badOp), api.ErrLabels}, {row(at(0), badOp, at(0)), api.ErrOp}, {row(badTarget, at(0), at(0)), api.ErrLabels},
	} {
		isRefused(t, x.l, x.err)
		isRead(t, x.l)
	}
}

// Leads tells what is wrong with the lines ahead of what is wrong with the label.
func TestP17_1NoLabel(t *testing.T) {
	for _, l := range [][]api.Line{nil, row(), row(back()), row(at(7)), row(jump(7), at(7)), row(at(7), do(api.OpGet, 6), at(5)), row(choose(1, 7, 6, 7), at(7))} {
		for _, n := range []int{6, 8, 0, 1, -1, -7, 1 << 31, 1<<31 - 1, 7 + 1<<32, math.MaxInt, math.MinInt} {
			if got, err := Leads(l, n); got != 0 || err != api.ErrArg {
				t.Errorf("Leads(%v, %d) = %d, %d", l, n, got, err)
			}
			bad := append(l[:len(l):len(l)], do(53))
			if got, err := Leads(bad, n); got != 0 || err != api.ErrOp {
				t.Errorf("Leads(%v, %d) = %d, %d", bad, n, got, err)
			}
		}
	}
}
