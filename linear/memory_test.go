package linear

import (
	"bytes"
	"fmt"
	"slices"
	"testing"

	"trammel/api"
)

// cut tells the first so many of a list, with the rest behind it in its memory.
func cut[T any](list []T, n int) []T { return list[:n:len(list)] }

// spoil writes over a list, and what lies behind it.
func spoil[T any](list []T, x T) {
	list = list[:cap(list)]
	for i := range list {
		list[i] = x
	}
}

// spoilLines writes over the arms of lines, and then the lines.
func spoilLines(l []api.Line) {
	for _, x := range l {
		spoil(x.X.Arms, api.Arm{Value: 77, To: 77})
	}
	spoil(l, api.Line{Label: 77})
}

// stock makes lines with one list of arms in two of them, with arms of no length that have room, and with more behind each list's length.
func stock() (whole []api.Line, l []api.Line) {
	arms := []api.Arm{{Value: 1, To: 4}, {Value: 2, To: 6}, {Value: 3, To: 4}, {Value: 4, To: 9}, {Value: 5, To: 9}}
	one := api.Line{X: api.Instr{Op: api.OpSwitch, A: 1, B: 6, Arms: cut(arms, 3)}}
	empty := do(api.OpTrue)
	empty.X.Arms = arms[3:3:5]
	whole = row(at(4), one, do(api.OpJump, 6), empty, one, at(5), at(6), empty, at(9), do(53))
	return whole, cut(whole, 8)
}

func stockNormal() []api.Line {
	x := choose(1, 1, 1, 0, 2, 1, 3, 0)
	return row(at(0), x, do(api.OpJump, 1), do(api.OpTrue), x, at(1), do(api.OpTrue))
}

func stockText() string {
	const x = "\tswitch 1 1:L4 2:L6 3:L4 L6\n"
	return "L4:\n" + x + "\tjump L6\n\ttrue\n" + x + "L5:\nL6:\n\ttrue\n"
}

// What is handed in stays as it is, and what was answered stays when that is changed.
func TestP15_8OnlyRead(t *testing.T) {
	whole, l := stock()
	before := fmt.Sprint(whole, whole[1].X.Arms[:5])
	err := Check(l)
	normal, _ := Normal(l)
	text, _ := Text(l)
	code, _ := Code(l)
	targets := Targets(l[1].X)
	moved, _ := Moved(l[1].X, []int64{7, 8, 9, 10})
	same := Same(l, slices.Clone(l))
	if now := fmt.Sprint(whole, whole[1].X.Arms[:5]); now != before || err != api.OK || !same {
		t.Fatalf("handed in: %s\nnow it is: %s", before, now)
	}
	spoilLines(whole)
	if !Same(normal, stockNormal()) || text != stockText() || !slices.Equal(targets, []int64{4, 6, 4, 6}) {
		t.Errorf("behind a change of the lines: %v, %q, %v", normal, text, targets)
	}
	if want, _ := plainCode(stockNormal()); !bytes.Equal(code, want) || !Same(row(api.Line{X: moved}), row(choose(1, 10, 1, 7, 2, 8, 3, 9))) {
		t.Errorf("behind a change of the lines: % x, %v", code, moved)
	}
}

// What is answered is nobody else's: not that of what was handed in, not that of another answer.
func TestP15_8NewMemory(t *testing.T) {
	whole, l := stock()
	before := fmt.Sprint(whole, whole[1].X.Arms[:5])
	wantCode, _ := plainCode(stockNormal())
	for range 3 {
		normal, _ := Normal(l)
		code, _ := Code(l)
		lines, _ := Lines(code)
		if !Same(normal, stockNormal()) || !Same(lines, stockNormal()) || !bytes.Equal(code, wantCode) {
			t.Fatalf("behind a change of another answer: %v, %v, % x", normal, lines, code)
		}
		spoilLines(normal)
		spoilLines(lines)
		spoil(code, 0xee)
		for _, x := range l {
			list := Targets(x.X)
			if !slices.Equal(list, plainTold(x.X)) {
				t.Fatalf("Targets(%v) = %v", x.X, list)
			}
			moved, _ := Moved(x.X, list)
			spoil(list, 77)
			if !Same(row(api.Line{X: moved}), row(api.Line{X: x.X})) {
				t.Fatalf("behind a change of to: %v, want %v", moved, x.X)
			}
			spoil(moved.Arms, api.Arm{Value: 77})
		}
		if now := fmt.Sprint(whole, whole[1].X.Arms[:5]); now != before {
			t.Fatalf("handed in: %s\nnow it is: %s", before, now)
		}
	}
}

// Of Lines what is handed in is only read, too, and not kept.
func TestP15_8LinesOnlyRead(t *testing.T) {
	good, _ := plainCode(stockNormal())
	whole := append(slices.Clone(good), 1, 2, 3)
	kept := slices.Clone(whole)
	got, err := Lines(cut(whole, len(good)))
	if err != api.OK || !bytes.Equal(whole, kept) {
		t.Fatalf("handed in: % x, now it is % x", kept, whole)
	}
	spoil(whole, 0)
	if !Same(got, stockNormal()) {
		t.Errorf("behind a change of the code: %v", got)
	}
}

// No two lists within one answer share memory.
func TestP15_8Within(t *testing.T) {
	code, _ := plainCode(stockNormal())
	for _, answer := range []func() []api.Line{
		func() []api.Line { _, l := stock(); n, _ := Normal(l); return n },
		func() []api.Line { l, _ := Lines(code); return l },
	} {
		for i := range stockNormal() {
			got, want := answer(), stockNormal()
			spoil(got[i].X.Arms, api.Arm{Value: 77})
			spoil(got[len(got):cap(got)], api.Line{Label: 77})
			got[i] = want[i]
			if !Same(got, want) {
				t.Errorf("behind a change of the arms of line %d: %v", i, got)
			}
		}
	}
}
