package thread

import (
	"testing"

	"trammel/api"
)

// marks tells what Reached answers, a line a sign.
func marks(is []bool) string {
	s := ""
	for _, ok := range is {
		s += map[bool]string{true: "+", false: "-"}[ok]
	}
	return s
}

func TestP17_2Reached(t *testing.T) {
	trap, unless := do(api.OpTrap, 0), do(api.OpUnless, 1)
	for _, x := range []struct {
		l    []api.Line
		want string
	}{
		{nil, ""}, {row(), ""},
		// the first one, whatever it is
		{row(at(0)), "+"}, {row(yes()), "+"}, {row(back()), "+"}, {row(jump(0), at(0)), "++"}, {row(at(0), at(1), yes(), at(2)), "++++"},
		// what stands behind a jump, a switch, a return, a trap, and behind all else
		{row(jump(1), yes(), at(1), yes()), "+-++"}, {row(jump(1), at(0), yes(), at(1)), "+--+"}, {row(choose(1, 1), yes(), at(1), yes()), "+-++"},
		{row(back(), yes(), yes()), "+--"}, {row(back(), at(0), yes()), "+--"}, {row(trap, yes(), at(0)), "+--"}, {row(trap, at(0), back()), "+--"},
		{row(when(1), yes(), at(1), yes()), "++++"}, {row(unless, yes(), at(1), yes()), "++++"}, {row(do(api.OpCall, 1), at(1), do(api.OpGet, 1), yes()), "++++"},
		// targets of a when and an unless, of each arm of a switch, and of its default
		{row(when(1), back(), yes(), at(1), yes()), "++-++"}, {row(unless, back(), at(0), yes(), at(1), yes()), "++--++"},
		{row(choose(1, 1, 5, 2, 6, 3), at(0), yes(), at(1), back(), at(2), back(), at(4), back(), at(3), yes()), "+--++++--++"},
		{row(choose(2, 1, 5, 1, 6, 1), at(0), back(), at(1), back()), "+--++"}, {row(choose(3, 0, 5, 1), at(0), back(), at(1), back()), "+++++"},
		// backward, and what is come to from there
		{row(jump(3), at(1), yes(), back(), yes(), at(3), jump(1)), "++++-++"}, {row(jump(3), at(2), back(), at(1), jump(2), at(3), jump(1)), "+++++++"},
		{row(jump(0), yes(), at(1), at(0), at(2), yes()), "+--+++"}, // behind a label that is come to, not ahead of it
		// what only leads to itself, or is led to by what is not come to
		{row(back(), at(0), jump(0)), "+--"}, {row(back(), at(0), jump(1), at(1), jump(0)), "+----"}, {row(back(), jump(0), at(0), yes()), "+---"},
		{row(back(), at(0), yes(), when(0), back()), "+----"}, {row(back(), choose(1, 1, 5, 0), at(0), back(), at(1), back()), "+-----"},
		{row(jump(0), when(1), at(0), back(), at(1), yes()), "+-++--"},
		// rings that are come to
		{row(at(0), jump(0), yes()), "++-"}, {row(at(0), jump(1), yes(), at(1), jump(0), yes()), "++-++-"},
	} {
		got, err := Reached(x.l)
		if marks(got) != x.want || err != api.OK {
			t.Errorf("Reached(%v) = %s, %d, want %s", x.l, marks(got), err, x.want)
		}
		isRead(t, x.l)
	}
}

// Behind each Op stands what is come to, unless it is one of four.
func TestP17_2EachOp(t *testing.T) {
	for op := uint8(1); op <= 52; op++ {
		x := do(op)
		switch op {
		case api.OpAdd, api.OpSub, api.OpMul, api.OpDiv, api.OpRem, api.OpAnd, api.OpOr, api.OpXor, api.OpShl, api.OpShr, api.OpNeg, api.OpNot,
			api.OpEq, api.OpNe, api.OpLt, api.OpLe, api.OpGt, api.OpGe, api.OpSwitch:
			x = do(op, 1)
		case api.OpConv:
			x = do(op, 1, 2)
		}
		l, want := row(at(1), yes(), x, at(5), at(0)), "+++++"
		switch op {
		case api.OpJump, api.OpSwitch:
			l[3], want = yes(), "+++-+"
		case api.OpReturn, api.OpTrap:
			want = "+++--"
		}
		if got, err := Reached(l); marks(got) != want || err != api.OK {
			t.Errorf("Reached(%v) = %s, %d, want %s", l, marks(got), err, want)
		}
		isRead(t, l)
	}
}
