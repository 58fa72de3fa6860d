package linear

import (
	"testing"

	"trammel/api"
)

// isRefused holds all calls that take lines to Check's error, and to answering nothing else then.
func isRefused(t *testing.T, l []api.Line, want api.Errno) {
	t.Helper()
	if err := Check(l); err != want {
		t.Errorf("Check(%s) = %d, want %d", tell(l), err, want)
	}
	if got, err := Normal(l); err != want || want != api.OK && len(got) > 0 {
		t.Errorf("Normal(%s) = %s, %d, want %d", tell(l), tell(got), err, want)
	}
	if got, err := Text(l); err != want || want != api.OK && got != "" {
		t.Errorf("Text(%s) = %q, %d, want %d", tell(l), got, err, want)
	}
	if got, err := Code(l); err != want || want != api.OK && len(got) > 0 {
		t.Errorf("Code(%s) = % x, %d, want %d", tell(l), got, err, want)
	}
}

func TestP15_1Check(t *testing.T) {
	long := append(make([]api.Line, 0, 70001), at(0))
	for range 70000 {
		long = append(long, do(api.OpTrue))
	}
	for _, x := range []struct {
		l   []api.Line
		err api.Errno
	}{
		{nil, api.OK}, {row(), api.OK}, {make([]api.Line, 0, 5), api.OK},
		{row(at(0)), api.OK}, {row(at(1)), api.OK}, {row(at(1<<31 - 1)), api.OK}, {row(at(1<<31 - 2)), api.OK},
		{row(at(-1)), api.ErrLabels}, {row(at(1 << 31)), api.ErrLabels}, {row(at(1<<31 + 1)), api.ErrLabels}, {row(at(1 << 32)), api.ErrLabels},
		{row(at(-1 << 63)), api.ErrLabels}, {row(at(1<<63 - 1)), api.ErrLabels}, {row(at(-1 << 31)), api.ErrLabels},

		{row(at(0), at(0)), api.ErrLabels}, {row(at(5), do(api.OpTrue), at(5)), api.ErrLabels}, {row(at(5), at(6), at(7), at(5)), api.ErrLabels},
		{row(at(5), at(6), at(4)), api.OK}, {row(at(1<<31-1), at(0), at(1<<31-1)), api.ErrLabels},

		{row(api.Line{X: api.Instr{A: 1}}), api.ErrOp}, {row(api.Line{X: api.Instr{A: -1}}), api.ErrOp}, {row(api.Line{X: api.Instr{B: 1}}), api.ErrOp},
		{row(armed(at(0))), api.ErrOp}, {row(api.Line{X: api.Instr{Arms: []api.Arm{}}}), api.OK}, {row(do(api.OpTrue), armed(at(3))), api.ErrOp},
		{row(api.Line{Label: 1, X: api.Instr{Op: api.OpTrue}}), api.ErrOp}, {row(api.Line{Label: -1, X: api.Instr{Op: api.OpTrue}}), api.ErrOp},
		{row(api.Line{Label: 1, X: api.Instr{Op: api.OpJump, A: 1}}, at(1)), api.ErrOp},
		{row(api.Line{X: api.Instr{Op: api.OpTrue, Arms: []api.Arm{}}}), api.OK},

		{row(do(53)), api.ErrOp}, {row(do(255)), api.ErrOp}, {row(do(api.OpTrue, 1)), api.ErrOp}, {row(do(api.OpTrue, 0, 1)), api.ErrOp},
		{row(armed(do(api.OpTrue))), api.ErrOp}, {row(do(api.OpI8, 128)), api.ErrOp}, {row(do(api.OpI8, -128)), api.OK},
		{row(do(api.OpJump, -1)), api.ErrOp}, {row(do(api.OpJump, 1<<32)), api.ErrOp}, {row(at(0), do(api.OpJump, 0, 1)), api.ErrOp},
		{row(choose(4, 0), at(0)), api.ErrOp}, {row(choose(1, 0, 128, 0), at(0)), api.ErrOp}, {row(choose(1, 0, 1, -1), at(0)), api.ErrOp},

		{row(do(api.OpJump, 0)), api.ErrLabels}, {row(do(api.OpUnless, 0)), api.ErrLabels}, {row(do(api.OpWhen, 0)), api.ErrLabels},
		{row(at(1), do(api.OpJump, 0)), api.ErrLabels}, {row(at(1), do(api.OpUnless, 0)), api.ErrLabels}, {row(at(1), do(api.OpWhen, 0)), api.ErrLabels},
		{row(do(api.OpJump, 0), at(0)), api.OK}, {row(do(api.OpUnless, 1), at(1)), api.OK}, {row(at(2), do(api.OpWhen, 2)), api.OK},
		{row(do(api.OpJump, 1<<31-1), at(1<<31-1)), api.OK}, {row(do(api.OpJump, 1<<31), at(0)), api.ErrLabels}, {row(do(api.OpJump, 1<<32-1), at(0)), api.ErrLabels},
		{row(at(0), at(1), choose(1, 1, 5, 0)), api.OK}, {row(at(1), choose(1, 1, 5, 0)), api.ErrLabels}, {row(at(0), choose(1, 1, 5, 0)), api.ErrLabels},
		{row(at(0), choose(3, 0)), api.OK}, {row(at(1), choose(3, 0)), api.ErrLabels}, {row(at(0), choose(3, 0, 1, 0, 2, 0, 3, 1)), api.ErrLabels},
		{row(at(0), choose(3, 0, 1, 0, 1, 0)), api.OK}, {row(at(0), choose(3, 0, 1, 1, 2, 0)), api.ErrLabels},
		{row(do(api.OpGet, 7), do(api.OpTrap, 9)), api.OK}, // their numbers are no labels
	} {
		isRead(t, x.l)
		isRefused(t, x.l, x.err)
	}
	if err := Check(append(long, do(api.OpJump, 0))); err != api.OK {
		t.Errorf("Check of many lines: %d", err)
	}
}

// Which error comes first: on a line ErrOp, of two lines that of the earlier one, a target behind all lines.
func TestP15_1Order(t *testing.T) {
	badOp, badLabel, twice, badTarget := do(53), at(-1), at(7), do(api.OpJump, 9)
	for _, x := range []struct {
		l   []api.Line
		err api.Errno
	}{
		{row(api.Line{Label: -1, X: api.Instr{A: 1}}), api.ErrOp}, {row(api.Line{Label: 1 << 31, X: api.Instr{B: 1}}), api.ErrOp}, {row(armed(at(-1))), api.ErrOp},
		{row(at(7), armed(at(7))), api.ErrOp}, {row(badOp, badLabel), api.ErrOp}, {row(badLabel, badOp), api.ErrLabels},
		{row(twice, twice, badOp), api.ErrLabels}, {row(twice, badOp, twice), api.ErrOp},
		{row(badTarget, badOp), api.ErrOp}, {row(badOp, badTarget), api.ErrOp}, {row(badTarget, at(0), api.Line{X: api.Instr{A: 1}}), api.ErrOp},
		{row(badTarget, badLabel), api.ErrLabels}, {row(badTarget, twice, twice), api.ErrLabels}, {row(badTarget, twice), api.ErrLabels},
		{row(badTarget, do(api.OpTrue), badOp), api.ErrOp}, {row(do(api.OpJump, -1), badLabel), api.ErrOp}, {row(badLabel, do(api.OpJump, -1)), api.ErrLabels},
	} {
		isRead(t, x.l)
		isRefused(t, x.l, x.err)
	}
}

// Each Op with A and B at each edge, with an arm, and with a Label; every label is there that a small target may be.
func TestP15_1EachOp(t *testing.T) {
	some := row(at(0), at(1), at(2), at(3), at(4), at(5), at(255), at(65535), at(1<<31-1))
	taken := map[uint8]int{}
	for op := range 256 {
		for _, a := range ends {
			for _, b := range ends {
				x := do(uint8(op), a, b)
				want := api.OK
				if op == 0 && (a != 0 || b != 0) || op != 0 && plainBytes(x.X) == nil {
					want = api.ErrOp
				} else if op == 0 || plainCheck(append(some, x)) != api.OK {
					want = api.ErrLabels // as a label it stands there already
				} else {
					taken[uint8(op)]++
				}
				if err := Check(append(some, x)); err != want {
					t.Fatalf("Check of %v behind labels: %d, want %d", x, err, want)
				}
			}
			x := do(uint8(op), a)
			isRefused(t, row(armed(x), at(0)), plainCheck(row(armed(x), at(0))))
			x.Label = 1
			isRefused(t, row(x, at(0)), plainCheck(row(x, at(0))))
		}
	}
	if len(taken) != 52 {
		t.Errorf("of %d Ops one was taken", len(taken))
	}
}

// Each label at its edges, and each target, whether it is there or not.
func TestP15_1EachLabel(t *testing.T) {
	for _, n := range ends {
		isRead(t, row(at(int(n))))
		isRead(t, row(at(int(n)), do(api.OpTrue), at(int(n))))
		for _, to := range ends {
			for _, x := range row(do(api.OpJump, to), do(api.OpUnless, to), do(api.OpWhen, to), choose(1, to), choose(1, n, 5, to), choose(1, to, 5, n)) {
				isRead(t, row(at(int(n)), x))
				isRead(t, row(x, at(int(n))))
			}
		}
	}
}
