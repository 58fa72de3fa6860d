package thread

import (
	"fmt"
	"slices"
	"testing"

	"trammel/api"
	"trammel/linear"
)

// spoil writes over a list, and what lies behind it.
func spoil[T any](list []T, x T) {
	list = list[:cap(list)]
	for i := range list {
		list[i] = x
	}
}

// spoilLines writes over the arms of lines, and then the lines.
func spoilLines(l []api.Line) {
	for _, x := range l {
		spoil(x.X.Arms, api.Arm{Value: 77, To: 77})
	}
	spoil(l, api.Line{Label: 77})
}

// stock makes lines with one list of arms in two of them, with arms of no length that have room, and with more behind each list's length.
func stock() (whole []api.Line, l []api.Line) {
	arms := []api.Arm{{Value: 1, To: 4}, {Value: 2, To: 6}, {Value: 3, To: 5}, {Value: 4, To: 9}, {Value: 5, To: 9}}
	one := api.Line{X: api.Instr{Op: api.OpSwitch, A: 1, B: 6, Arms: arms[:3]}}
	empty := yes()
	empty.X.Arms = arms[3:3]
	whole = row(at(4), yes(), one, at(6), jump(4), empty, at(5), empty, one, at(0), back(), at(9), do(53))
	return whole, whole[:11]
}

func stockThin() []api.Line {
	x := choose(1, 0, 1, 0, 2, 0, 3, 1)
	return row(at(0), yes(), x, at(1), yes(), x)
}

// stockIs are the lines that are come to.
const stockIs = "+++++-+++--"

// everything tells all of lines, what lies behind their lists included.
func everything(l []api.Line) string {
	s := ""
	for _, x := range l[:cap(l)] {
		s += fmt.Sprint(x, x.X.Arms[:cap(x.X.Arms)], "\n")
	}
	return s
}

// What is handed in stays as it is, and what was answered stays when that is changed.
func TestP17OnlyRead(t *testing.T) {
	whole, l := stock()
	before := everything(whole)
	end, err := Leads(l, 6)
	is, err2 := Reached(l)
	thin, err3 := Thin(l)
	if now := everything(whole); now != before || err|err2|err3 != api.OK {
		t.Fatalf("handed in: %s\nnow it is: %s", before, now)
	}
	spoilLines(whole)
	if end != 4 || marks(is) != stockIs || !linear.Same(thin, stockThin()) {
		t.Errorf("behind a change of the lines: %d, %s, %v", end, marks(is), thin)
	}
}

// Nor is what Thin has nothing to do on handed out itself.
func TestP17ThinIsNew(t *testing.T) {
	l := stockThin()
	before := everything(l)
	thin, _ := Thin(l)
	spoilLines(thin)
	if now := everything(l); now != before {
		t.Errorf("handed in: %s\nnow it is: %s", before, now)
	}
	again, _ := Thin(l)
	spoilLines(l)
	if !linear.Same(again, stockThin()) {
		t.Errorf("behind a change of the lines: %v", again)
	}
}

// What is answered is nobody else's.
func TestP17NewMemory(t *testing.T) {
	whole, l := stock()
	before := everything(whole)
	for range 3 {
		is, _ := Reached(l)
		thin, _ := Thin(l)
		if marks(is) != stockIs || !linear.Same(thin, stockThin()) {
			t.Fatalf("behind a change of another answer: %s, %v", marks(is), thin)
		}
		spoil(is, true)
		spoilLines(thin)
		if now := everything(whole); now != before {
			t.Fatalf("handed in: %s\nnow it is: %s", before, now)
		}
	}
}

// No two lists within one answer share memory.
func TestP17Within(t *testing.T) {
	for i := range stockThin() {
		_, l := stock()
		thin, _ := Thin(l)
		want := stockThin()
		spoil(thin[i].X.Arms, api.Arm{Value: 77})
		spoil(thin[len(thin):cap(thin)], api.Line{Label: 77})
		thin[i] = want[i]
		if !linear.Same(thin, want) {
			t.Errorf("behind a change of the arms of line %d: %v", i, thin)
		}
	}
}

// What one call was given changes no other one's answer.
func TestP17OneByOne(t *testing.T) {
	m := madeBy(175)
	type answer struct {
		l, thin []api.Line
		is      []bool
	}
	var list []answer
	for range 300 {
		l := m.lines()
		thin, _ := Thin(l)
		is, _ := Reached(l)
		list = append(list, answer{l, thin, is})
	}
	for i := len(list) - 1; i >= 0; i-- {
		thin, _ := Thin(list[i].l)
		is, _ := Reached(list[i].l)
		if !linear.Same(thin, list[i].thin) || !slices.Equal(is, list[i].is) {
			t.Fatalf("%s: %s, and then %s", tell(list[i].l), tell(list[i].thin), tell(thin))
		}
	}
}
