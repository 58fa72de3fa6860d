package thread

import (
	"testing"

	"trammel/api"
	"trammel/linear"
)

func TestP17_3Thin(t *testing.T) {
	unless, trap := do(api.OpUnless, 0), do(api.OpTrap, 3)
	for _, x := range []struct{ l, want []api.Line }{
		{row(), nil}, {row(at(5)), nil}, {row(at(5), at(0), at(7)), nil}, {row(jump(0), at(0)), nil}, {row(at(3), jump(0), at(2), at(0), at(1)), nil},
		// labels become normal, in any case
		{row(yes(), at(4), back()), row(yes(), back())}, {row(yes(), when(9), back(), at(9)), row(yes(), when(0), back(), at(0))},
		{row(at(8), at(3), yes(), when(3), when(8), back()), row(at(0), yes(), when(0), when(0), back())},
		{row(at(1), yes(), when(1), at(0), yes(), when(0), back()), row(at(0), yes(), when(0), at(1), yes(), when(1), back())},
		// each kind of target goes where it leads
		{row(yes(), when(1), back(), at(1), jump(0), at(3), yes(), at(0), trap), row(yes(), when(0), back(), at(0), trap)},
		{row(yes(), do(api.OpUnless, 1), back(), at(1), jump(0), at(3), yes(), at(0), trap), row(yes(), unless, back(), at(0), trap)},
		{row(do(api.OpI8, 1), choose(1, 1, 5, 2, 6, 0, 7, 1), at(1), jump(2), at(0), jump(3), at(2), trap, at(3), back()), row(do(api.OpI8, 1), choose(1, 0, 5, 0, 6, 1, 7, 0), at(0), trap, at(1), back())},
		{row(at(0), yes(), when(1), jump(2), at(1), jump(0), at(2), jump(0)), row(at(0), yes(), when(0), jump(0))},
		// what is not come to is left out, also when only jumps came to it
		{row(back(), yes(), at(0), jump(0)), row(back())}, {row(trap, back()), row(trap)}, {row(jump(0), at(1), back(), at(0), trap), row(trap)},
		{row(do(api.OpI8, 1), choose(1, 0), yes(), at(0), back(), at(1), trap, jump(1)), row(do(api.OpI8, 1), choose(1, 0), at(0), back())},
		{row(jump(1), at(2), trap, at(1), jump(0), yes(), when(2), at(0), back()), row(back())},
		// jumps right behind which their targets stand
		{row(yes(), jump(0), at(0), back()), row(yes(), back())}, {row(yes(), jump(0), at(1), at(0), at(2), back()), row(yes(), back())},
		{row(yes(), jump(0), yes(), at(0), back()), row(yes(), back())}, {row(yes(), jump(0), at(0)), row(yes())},
		{row(yes(), when(1), jump(0), at(1), back(), at(0), trap), row(yes(), when(0), jump(1), at(0), back(), at(1), trap)},             // an instruction between
		{row(yes(), when(0), at(0), back()), row(yes(), when(0), at(0), back())}, {row(yes(), unless, at(0)), row(yes(), unless, at(0))}, // no jumps
		{row(do(api.OpI8, 1), choose(1, 0), at(0), back()), row(do(api.OpI8, 1), choose(1, 0), at(0), back())},
		{row(at(0), jump(0), at(1), back()), row(at(0), jump(0))}, // its target stands ahead
		// rings
		{row(at(0), jump(0)), row(at(0), jump(0))}, {row(yes(), jump(0), at(0), jump(0)), row(yes(), at(0), jump(0))},
		{row(jump(5), at(5), jump(3), yes(), at(3), jump(5)), row(at(0), jump(0))},
		{row(at(0), jump(2), at(1), jump(0), at(2), jump(1)), row(at(0), jump(2), at(1), jump(0), at(2), jump(1))},
		{row(yes(), when(5), back(), at(0), jump(0), at(5), jump(0)), row(yes(), when(1), back(), at(0), jump(0), at(1), jump(0))}, // a way into a ring stays
	} {
		got, err := Thin(x.l)
		if err != api.OK || !linear.Same(got, x.want) {
			t.Errorf("Thin(%v) = %v, %d, want %v", x.l, got, err, x.want)
		}
		isRead(t, x.l)
	}
}

// Rows that want several rounds: of some jumps, all to one place and all in a ring, each finds its target right behind itself when the one
// behind it is gone.
func TestP17_3Rounds(t *testing.T) {
	for n := range 7 {
		var l []api.Line
		for i := range n {
			l = append(l, yes(), when(int64(2+i)))
		}
		for i := range n {
			l = append(l, at(2+i), jump(1))
		}
		l = append(l, at(1), jump(2))
		if n == 0 {
			l[1] = jump(1)
		}
		rounds, _ := isRead(t, l)
		if rounds != max(n, 1) {
			t.Errorf("%d jumps: %d rounds changed something", n, rounds)
		}
		var want []api.Line
		for range n {
			want = append(want, yes(), when(0))
		}
		want = append(want, at(0), jump(0))
		if got, err := Thin(l); err != api.OK || !linear.Same(got, want) {
			t.Errorf("Thin(%v) = %v, %d, want %v", l, got, err, want)
		}
	}
	for n, l := range [][]api.Line{row(at(0), yes(), when(0), back()), row(jump(0), at(0), back())} {
		if rounds, _ := isRead(t, l); rounds != n {
			t.Errorf("%v: %d rounds changed something, want %d", l, rounds, n)
		}
	}
}
