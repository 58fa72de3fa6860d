package thread

import (
	"testing"
	"time"

	"trammel/api"
	"trammel/linear"
)

// many is how many jumps, labels or rings stand in long rows; if one of them took as long as all, a call would take minutes.
const many = 100000

// isLong holds a long row to what Thin makes of it, to where one label leads, and to how many of its lines are come to.
func isLong(t *testing.T, name string, l, want []api.Line, label, end, come int) {
	t.Helper()
	begun := time.Now()
	thin, err := Thin(l)
	got, err2 := Leads(l, label)
	is, err3 := Reached(l)
	n := 0
	for _, ok := range is {
		if ok {
			n++
		}
	}
	if err|err2|err3 != api.OK || !linear.Same(thin, want) || got != end || n != come {
		t.Errorf("%s: %s, %d, want %s; Leads(%d) = %d, %d, want %d; %d lines are come to, %d, want %d", name, tell(thin), err, tell(want), label, got, err2, end, n, err3, come)
	}
	if took := time.Since(begun); took > 20*time.Second {
		t.Errorf("%s took %v", name, took)
	}
}

// Jumps each to the next one, forward and backward, and round.
func TestP17LongRows(t *testing.T) {
	forward, apart, around := row(), row(), row()
	backward := row(jump(many))
	backward = append(backward, at(0), back())
	for i := range many {
		forward = append(forward, at(i), jump(int64(i+1)))
		apart = append(apart, at(i), jump(int64(i+1)), do(api.OpTrap, 1))
		backward = append(backward, at(i+1), jump(int64(i)))
		around = append(around, at(i), jump(int64((i+many-1)%many)))
	}
	isLong(t, "forward", append(forward, at(many), back()), row(back()), 0, many, 2*many+2)
	isLong(t, "apart", append(apart, at(many), back()), row(back()), 0, many, 2*many+2)
	isLong(t, "backward", backward, row(back()), many, 0, 2*many+3)
	isLong(t, "around", around, around, 5, 5, 2*many)
	forward[len(forward)-1] = jump(0)
	isLong(t, "around forward", forward, row(at(0), jump(0)), 7, 7, 2*many)
}

// Many labels at one place, with many instructions leading there, and ways into one ring out of many places.
func TestP17LongHeap(t *testing.T) {
	var heap, some, nested, want, tests []api.Line
	for i := range many {
		heap = append(heap, yes(), when(int64(i)))
		some = append(some, at(i))
		nested = append(nested, yes(), when(int64(i)))
		tests = append(tests, yes(), when(0))
	}
	isLong(t, "one place", append(append(heap, some...), back()), append(tests[:2*many:2*many], at(0), back()), 9, 9, 3*many+1)
	heap = append(heap[:2*many:2*many], some...)
	isLong(t, "one place ahead of a jump", append(heap, jump(many), yes(), at(many), back()), append(tests[:2*many:2*many], at(0), back()), 9, many, 3*many+3)
	for i := range many {
		nested = append(nested, at(i), jump(many))
	}
	want = append(tests[:2*many:2*many], at(0), jump(0))
	isLong(t, "into a ring", append(nested, at(many), jump(0)), want, 9, 9, 4*many+2)
}

// A switch with as many arms as may be, each to a jump, and many such arms in many switches.
func TestP17LongSwitch(t *testing.T) {
	const arms = 65535
	x, y := choose(3, arms), choose(3, 0)
	var rest []api.Line
	for i := range arms {
		x.X.Arms = append(x.X.Arms, api.Arm{Value: int64(i), To: i})
		y.X.Arms = append(y.X.Arms, api.Arm{Value: int64(i), To: i % 2})
		rest = append(rest, at(i), jump(int64(arms+i%2)))
	}
	l := append(row(do(api.OpI64, 1), x), rest...)
	l = append(l, at(arms+1), do(api.OpTrap, 1), at(arms), back())
	for i := range y.X.Arms {
		y.X.Arms[i].To = 1 - i%2
	}
	y.X.B = 1
	isLong(t, "a wide switch", l, row(do(api.OpI64, 1), y, at(0), do(api.OpTrap, 1), at(1), back()), 1, arms+1, 2*arms+6)
}

// Rows of everything, far longer than a code may be.
func TestP17LongAtWill(t *testing.T) {
	m := madeBy(176)
	for range 3 {
		labels := m.labels(many / 10)
		x := choose(3, int64(labels[0])) // leads to all labels, so that most lines are come to
		for i, to := range labels {
			x.X.Arms = append(x.X.Arms, api.Arm{Value: int64(i), To: to})
		}
		l := row(x)
		for i := range many {
			l = append(l, m.instr(labels, 5))
			if i%10 == 5 {
				l = append(l, at(labels[i/10]))
			}
		}
		thin, err := Thin(l)
		again, err2 := Thin(thin)
		is, err3 := Reached(thin)
		if err|err2|err3 != api.OK || !linear.Same(again, thin) || instrs(thin) > instrs(l) || len(thin) < many/10 {
			t.Fatalf("%s: %d, %d, %d", tell(l), err, err2, err3)
		}
		for i, ok := range is {
			if !ok || plainRight(thin, i) {
				t.Fatalf("line %d of %d: %v", i, len(thin), thin[i])
			}
		}
	}
}
