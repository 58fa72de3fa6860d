package linear

import (
	"slices"
	"testing"

	"trammel/api"
)

// unlike are rows each of which is another one than all others, though some are no lines.
func unlike() [][]api.Line {
	pick := choose(1, 9, 5, 8, -1, 7)
	with := func(change func(x *api.Line)) []api.Line {
		x := pick
		x.X.Arms = slices.Clone(x.X.Arms)
		change(&x)
		return row(x)
	}
	return [][]api.Line{
		nil, row(at(0)), row(at(1)), row(at(-1)), row(at(1 << 40)), row(at(0), at(0)), row(at(0), at(1)), row(at(1), at(0)), row(at(0), at(0), at(0)),
		row(do(api.OpTrue)), row(do(api.OpFalse)), row(do(200)), row(do(api.OpTrue, 1)), row(do(api.OpTrue, 0, 1)), row(do(0, 1)), row(do(0, 0, 1)), row(do(0, 1, 1)),
		row(armed(do(api.OpTrue))), row(armed(at(0))), row(armed(at(1))), row(api.Line{Label: 1, X: api.Instr{Op: api.OpTrue}}),
		row(do(api.OpTrue), at(0)), row(at(0), do(api.OpTrue)), row(do(api.OpTrue), do(api.OpTrue)), row(do(api.OpJump, 1)), row(do(api.OpJump, 1<<32+1)), row(do(api.OpUnless, 1)),
		row(pick), row(pick, pick), row(choose(1, 9, 5, 8)), row(choose(1, 9, -1, 7)), row(choose(1, 9, -1, 7, 5, 8)), row(choose(1, 9)), row(choose(2, 9)), row(choose(1, 8)),
		with(func(x *api.Line) { x.Label = 3 }), with(func(x *api.Line) { x.X.Op = api.OpJump }), with(func(x *api.Line) { x.X.A = 2 }), with(func(x *api.Line) { x.X.B = 8 }),
		with(func(x *api.Line) { x.X.Arms[0].Value = 6 }), with(func(x *api.Line) { x.X.Arms[0].To = 9 }), with(func(x *api.Line) { x.X.Arms[1].Value = 1 }),
		with(func(x *api.Line) { x.X.Arms[1].To = -7 }), with(func(x *api.Line) { x.X.Arms = append(x.X.Arms, api.Arm{}) }), with(func(x *api.Line) { x.X.Arms[1] = x.X.Arms[0] }),
	}
}

func TestP15_7Same(t *testing.T) {
	first, second := unlike(), unlike()
	for i, a := range first {
		for j, b := range second {
			if Same(a, b) != (i == j) {
				t.Errorf("Same(%v, %v) = %v", a, b, i != j)
			}
			if Same(append(row(at(5)), a...), append(row(at(5)), b...)) != (i == j) || Same(slices.Concat(a, row(at(5))), slices.Concat(b, row(at(5)))) != (i == j) {
				t.Errorf("Same(%v, %v) with a line ahead or behind = %v", a, b, i != j)
			}
		}
	}
}

// What is not there and what is empty are one, inside lines, too; so is whatever lies behind a list's length.
func TestP15_7Empty(t *testing.T) {
	none, empty := do(api.OpTrue), do(api.OpTrue)
	empty.X.Arms = []api.Arm{}
	room := do(api.OpTrue)
	room.X.Arms = make([]api.Arm, 3)[:0]
	list := [][]api.Line{nil, {}, make([]api.Line, 0, 5), row(at(4))[:0]}
	for _, a := range list {
		for _, b := range list {
			if !Same(a, b) {
				t.Errorf("Same of no lines and of no lines: false")
			}
		}
		if Same(a, row(at(0))) || Same(row(at(0)), a) {
			t.Errorf("Same of no lines and of one: true")
		}
	}
	for _, a := range row(none, empty, room) {
		for _, b := range row(none, empty, room) {
			if !Same(row(a, at(1)), row(b, at(1))) {
				t.Errorf("Same of no arms and of no arms: false")
			}
		}
	}
}

func TestP15_7AtWill(t *testing.T) {
	m := madeBy(157)
	same := 0
	for range 20000 {
		a := m.spoilt()
		b := slices.Clone(a)
		if m.Intn(2) == 0 && len(b) > 0 {
			b[m.Intn(len(b))] = m.instr([]int{0, 1})
		}
		if Same(a, b) != plainSame(a, b) || Same(b, a) != Same(a, b) || !Same(a, a) {
			t.Fatalf("Same(%v, %v) = %v", a, b, Same(a, b))
		}
		if plainSame(a, b) {
			same++
		}
	}
	if same < 5000 || same > 15000 {
		t.Errorf("%d pairs of 20000 were the same", same)
	}
}
