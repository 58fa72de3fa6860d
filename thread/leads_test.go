package thread

import (
	"testing"

	"trammel/api"
)

func TestP17_1Leads(t *testing.T) {
	const last = 1<<31 - 1
	for _, x := range []struct {
		l    []api.Line
		ends map[int]int
	}{
		// no instruction behind it
		{row(at(0)), map[int]int{0: 0}}, {row(at(last)), map[int]int{last: last}}, {row(at(3), at(2), at(1)), map[int]int{3: 3, 2: 2, 1: 1}},
		{row(jump(5), at(5)), map[int]int{5: 5}}, {row(at(1), jump(2), at(2)), map[int]int{1: 2, 2: 2}}, {row(at(1), at(9), jump(2), at(3), at(2), at(4)), map[int]int{1: 2, 9: 2, 3: 3, 2: 2, 4: 4}},
		// one that is no jump
		{row(at(0), yes()), map[int]int{0: 0}}, {row(at(0), at(1), when(1)), map[int]int{0: 0, 1: 1}}, {row(at(0), do(api.OpUnless, 1), at(1)), map[int]int{0: 0, 1: 1}},
		{row(at(0), choose(1, 1), at(1), back()), map[int]int{0: 0, 1: 1}}, {row(at(0), choose(1, 1, 5, 1), at(1), jump(0)), map[int]int{0: 0, 1: 0}},
		{row(at(0), do(api.OpGet, 1), at(1), do(api.OpTrap, 0)), map[int]int{0: 0, 1: 1}}, {row(at(0), back(), jump(1), at(1)), map[int]int{0: 0, 1: 1}},
		{row(at(0), yes(), jump(1), at(1)), map[int]int{0: 0, 1: 1}}, // a jump, but not the first instruction
		// a jump, and jumps to jumps, forward and backward
		{row(at(0), jump(1), yes(), at(1), back()), map[int]int{0: 1, 1: 1}}, {row(at(1), back(), at(0), jump(1)), map[int]int{0: 1, 1: 1}},
		{row(at(0), jump(1), yes(), at(1), jump(2), yes(), at(2), back()), map[int]int{0: 2, 1: 2, 2: 2}},
		{row(at(2), back(), at(1), jump(2), at(0), jump(1)), map[int]int{0: 2, 1: 2, 2: 2}},
		{row(at(7), jump(last), at(4), back(), at(last), jump(4)), map[int]int{7: 4, last: 4, 4: 4}},
		{row(at(0), at(1), at(2), jump(4), at(3), at(4), at(5), jump(6), at(6), at(7), yes()), map[int]int{0: 6, 1: 6, 2: 6, 3: 6, 4: 6, 5: 6, 6: 6, 7: 7}},
		// rings, of which each label leads to itself
		{row(at(0), jump(0)), map[int]int{0: 0}}, {row(at(0), at(1), jump(0)), map[int]int{0: 0, 1: 1}}, {row(at(0), at(1), jump(1)), map[int]int{0: 0, 1: 1}},
		{row(at(0), jump(1), at(1), jump(0)), map[int]int{0: 0, 1: 1}}, {row(at(0), jump(2), at(1), jump(0), at(2), jump(1)), map[int]int{0: 0, 1: 1, 2: 2}},
		{row(at(0), jump(1), at(3), at(1), at(4), jump(2), at(5), at(2), jump(0)), map[int]int{0: 0, 1: 1, 2: 2, 3: 3, 4: 4, 5: 5}},
		// ways into rings, which come back to a label on them, too
		{row(at(5), jump(0), at(0), jump(0)), map[int]int{5: 5, 0: 0}}, {row(at(0), jump(0), at(5), jump(0)), map[int]int{5: 5, 0: 0}},
		{row(at(6), jump(5), at(5), jump(0), at(1), jump(0), at(0), jump(1)), map[int]int{6: 6, 5: 5, 0: 0, 1: 1}},
		{row(at(0), jump(1), at(1), jump(0), at(5), jump(1), at(6), jump(5), at(7), jump(5), at(8), back(), at(9), jump(8)), map[int]int{0: 0, 1: 1, 5: 5, 6: 6, 7: 7, 8: 8, 9: 8}},
	} {
		for n, want := range x.ends {
			if got, err := Leads(x.l, n); got != want || err != api.OK {
				t.Errorf("Leads(%v, %d) = %d, %d, want %d", x.l, n, got, err, want)
			}
		}
		isRead(t, x.l)
	}
}
