package linear

import (
	"testing"

	"trammel/api"
)

func TestP15_3Normal(t *testing.T) {
	yes, end := do(api.OpTrue), do(api.OpReturn)
	jump := func(n int64) api.Line { return do(api.OpJump, n) }
	for _, x := range []struct{ l, want []api.Line }{
		{nil, nil}, {row(), nil}, {row(yes), row(yes)}, {row(at(0)), nil}, {row(at(3), at(4)), nil}, {row(at(3), yes, at(4), end, at(5)), row(yes, end)},
		{row(at(9), jump(9)), row(at(0), jump(0))}, {row(at(9), at(0), jump(9)), row(at(0), jump(0))}, {row(at(0), at(9), jump(9)), row(at(0), jump(0))},
		{row(jump(9), at(9)), row(jump(0), at(0))}, {row(jump(9), at(3), at(9), at(4)), row(jump(0), at(0))},
		{row(at(1), jump(0), at(0), jump(1)), row(at(0), jump(1), at(1), jump(0))},
		{row(at(1), at(2), jump(1), jump(2), at(3)), row(at(0), jump(0), jump(0))},
		{row(at(5), yes, at(4), yes, at(3), jump(3)), row(yes, yes, at(0), jump(0))},
		{row(at(5), yes, at(4), yes, at(3), jump(5), jump(3)), row(at(0), yes, yes, at(1), jump(0), jump(1))},
		{row(at(5), yes, at(1<<31-1), jump(1<<31-1)), row(yes, at(0), jump(0))},
		{row(choose(1, 7, 5, 8, 4, 9), at(9), yes, at(8), yes, at(7)), row(choose(1, 2, 5, 1, 4, 0), at(0), yes, at(1), yes, at(2))},
		{row(choose(1, 7, 5, 8, 4, 9), at(9), at(8), at(7), end), row(choose(1, 0, 5, 0, 4, 0), at(0), end)},
		{row(choose(3, 7), at(9), yes, at(7)), row(choose(3, 0), yes, at(0))},
		{row(at(2), choose(2, 2, -1, 2)), row(at(0), choose(2, 0, -1, 0))},
		{row(do(api.OpConv, 1, 3), at(4), do(api.OpField, 4, 4), do(api.OpWhen, 4)), row(do(api.OpConv, 1, 3), at(0), do(api.OpField, 4, 4), do(api.OpWhen, 0))},
	} {
		isRead(t, x.l)
		if got, err := Normal(x.l); err != api.OK || !plainSame(got, x.want) {
			t.Errorf("Normal(%v) = %v, %d, want %v", x.l, got, err, x.want)
		}
	}
}

// What is too long for a code has a normal form, and a text: one switch, and very many lines, of which half are labels.
func TestP15_3Long(t *testing.T) {
	x := choose(1, 5)
	x.X.Arms = make([]api.Arm, 65535)
	for i := range x.X.Arms {
		x.X.Arms[i] = api.Arm{Value: int64(int8(i)), To: 5 + i%2}
	}
	got, err := Normal(row(at(6), at(7), x, do(api.OpTrue), at(5)))
	if err != api.OK || len(got) != 4 || got[1].X.Arms[65534].To != 1 || got[1].X.Arms[65533].To != 0 || got[1].X.B != 1 || got[3].Label != 1 {
		t.Errorf("Normal of a long switch: %s, %d", tell(got), err)
	}
	const many = 300000
	var l []api.Line
	for i := range many {
		l = append(l, at(many-i), do(api.OpUnless, int64(1+i)))
	}
	got, err = Normal(l)
	if err != api.OK || len(got) != 2*many {
		t.Fatalf("Normal of many lines: %d, %d", len(got), err)
	}
	for i := range many {
		if got[2*i].Label != i || got[2*i+1].X.A != int64(many-1-i) {
			t.Fatalf("Normal of many lines: %v, %v", got[2*i], got[2*i+1])
		}
	}
}

// Labels are normal, by the words of the chapter themselves.
func TestP15_3Words(t *testing.T) {
	m := madeBy(153)
	for range 20000 {
		l := m.lines()
		got, err := Normal(l)
		if err != api.OK {
			t.Fatalf("Normal(%s): %d", tell(l), err)
		}
		led := map[int64]bool{}
		for _, x := range got {
			for _, to := range Targets(x.X) {
				led[to] = true
			}
		}
		next := 0
		for i, x := range got {
			if !plainIsLabel(x) {
				continue
			}
			if x.Label != next || !led[int64(next)] || i > 0 && plainIsLabel(got[i-1]) {
				t.Fatalf("Normal(%s) = %s, of which line %d is not normal", tell(l), tell(got), i)
			}
			next++
		}
		if next != len(led) || len(plainInstrs(got)) != len(plainInstrs(l)) {
			t.Fatalf("Normal(%s) = %s: labels are wanting, or instructions", tell(l), tell(got))
		}
	}
}
