package linear

import (
	"fmt"
	"slices"
	"testing"

	"trammel/api"
)

func TestP15_2Targets(t *testing.T) {
	both := choose(1, 9, 5, 8, 6, 8).X
	for _, x := range []struct {
		x    api.Instr
		want []int64
	}{
		{api.Instr{}, nil}, {api.Instr{Op: api.OpTrue, A: 4}, nil}, {api.Instr{Op: api.OpGet, A: 4}, nil}, {api.Instr{Op: api.OpCall, A: 4}, nil},
		{api.Instr{Op: api.OpTrap, A: 4, B: 5}, nil}, {api.Instr{Op: api.OpReturn, A: 4}, nil}, {api.Instr{Op: 53, A: 4}, nil},
		{api.Instr{A: 4, B: 5, Arms: both.Arms}, nil}, {api.Instr{Op: api.OpTrue, Arms: both.Arms}, nil},
		{api.Instr{Op: api.OpJump, A: 7}, []int64{7}}, {api.Instr{Op: api.OpUnless, A: 7}, []int64{7}}, {api.Instr{Op: api.OpWhen, A: 7}, []int64{7}},
		{api.Instr{Op: api.OpJump, A: -1, B: 5}, []int64{-1}}, {api.Instr{Op: api.OpWhen, A: 1 << 62}, []int64{1 << 62}},
		{api.Instr{Op: api.OpJump, A: 7, B: 8, Arms: both.Arms}, []int64{7}},
		{both, []int64{8, 8, 9}}, {choose(99, -5).X, []int64{-5}}, {choose(0, 0).X, []int64{0}}, {choose(1, 2, 9, 4, 8, 3, 7, -1).X, []int64{4, 3, -1, 2}},
	} {
		if got := Targets(x.x); !slices.Equal(got, x.want) {
			t.Errorf("Targets(%v) = %v, want %v", x.x, got, x.want)
		}
	}
}

// Of any Instr, an instruction or not: what Targets tells, and what Moved makes of too few, just as many, and too many.
func TestP15_2EachOp(t *testing.T) {
	for op := range 256 {
		for _, a := range ends {
			for _, arms := range [][]api.Arm{nil, {}, {{Value: 5, To: int(a)}}, {{Value: a, To: 3}, {Value: a, To: -4}, {To: int(a)}}} {
				for _, b := range []int64{0, -1, 7, 1 << 40} {
					isMoved(t, api.Instr{Op: uint8(op), A: a, B: b, Arms: arms})
				}
			}
		}
	}
}

func isMoved(t *testing.T, x api.Instr) {
	t.Helper()
	told := plainTold(x)
	before := fmt.Sprint(x)
	if got := Targets(x); !slices.Equal(got, told) {
		t.Fatalf("Targets(%v) = %v, want %v", x, got, told)
	}
	for n := range 7 {
		to := []int64{-1 << 63, 11, 1<<63 - 1, -13, 0, 5, 6}[:n]
		if n == len(told) {
			next := -1
			want := plainPut(x, func(int64) int64 { next++; return to[next] })
			if got, err := Moved(x, to); err != api.OK || fmt.Sprint(got) != fmt.Sprint(want) {
				t.Fatalf("Moved(%v, %v) = %v, %d, want %v", x, to, got, err, want)
			}
		} else if got, err := Moved(x, to); err != api.ErrArg || fmt.Sprint(got) != fmt.Sprint(api.Instr{}) {
			t.Fatalf("Moved(%v, %v) = %v, %d", x, to, got, err)
		}
	}
	if fmt.Sprint(x) != before {
		t.Fatalf("of %s Moved made %v", before, x)
	}
}

func TestP15_2Moved(t *testing.T) {
	x := choose(1, 9, 5, 8, -1, 7).X
	for _, y := range []struct {
		x    api.Instr
		to   []int64
		want api.Instr
		err  api.Errno
	}{
		{x, []int64{1, 2, 3}, choose(1, 3, 5, 1, -1, 2).X, api.OK}, {x, []int64{4, 4, 4}, choose(1, 4, 5, 4, -1, 4).X, api.OK}, {x, []int64{8, 7, 9}, x, api.OK},
		{x, []int64{1, 2}, api.Instr{}, api.ErrArg}, {x, []int64{1, 2, 3, 4}, api.Instr{}, api.ErrArg}, {x, nil, api.Instr{}, api.ErrArg},
		{api.Instr{}, nil, api.Instr{}, api.OK}, {api.Instr{}, []int64{}, api.Instr{}, api.OK}, {api.Instr{}, []int64{0}, api.Instr{}, api.ErrArg},
		{do(api.OpTrue).X, nil, do(api.OpTrue).X, api.OK}, {do(api.OpTrue).X, []int64{1}, api.Instr{}, api.ErrArg},
		{do(api.OpJump, 3).X, []int64{4}, do(api.OpJump, 4).X, api.OK}, {do(api.OpJump, 3).X, []int64{-4}, do(api.OpJump, -4).X, api.OK},
		{do(api.OpJump, 3).X, nil, api.Instr{}, api.ErrArg}, {do(api.OpWhen, 3, 6).X, []int64{1, 2}, api.Instr{}, api.ErrArg},
		{do(api.OpUnless, 3, 6).X, []int64{5}, do(api.OpUnless, 5, 6).X, api.OK}, {armed(do(99, 3, 6)).X, nil, armed(do(99, 3, 6)).X, api.OK},
		{choose(7, 1).X, []int64{2}, choose(7, 2).X, api.OK}, {choose(7, 1).X, nil, api.Instr{}, api.ErrArg},
	} {
		got, err := Moved(y.x, y.to)
		if err != y.err || fmt.Sprint(got) != fmt.Sprint(y.want) {
			t.Errorf("Moved(%v, %v) = %v, %d, want %v, %d", y.x, y.to, got, err, y.want, y.err)
		}
	}
}

func TestP15_2ManyArms(t *testing.T) {
	x := api.Instr{Op: api.OpSwitch, B: 3, Arms: make([]api.Arm, 100000)}
	for i := range x.Arms {
		x.Arms[i].To = i
	}
	list := Targets(x)
	if len(list) != 100001 || list[99999] != 99999 || list[100000] != 3 {
		t.Fatalf("there are %d targets", len(list))
	}
	slices.Reverse(list)
	y, err := Moved(x, list)
	if err != api.OK || y.B != 0 || y.Arms[0].To != 3 || y.Arms[99999].To != 1 || x.Arms[99999].To != 99999 {
		t.Errorf("Moved: %d, %d", err, y.B)
	}
	if _, err := Moved(x, list[1:]); err != api.ErrArg {
		t.Errorf("Moved with one too few: %d", err)
	}
}
