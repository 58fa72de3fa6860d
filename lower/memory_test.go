package lower

import (
	"fmt"
	"slices"
	"testing"

	"trammel/api"
	"trammel/linear"
)

// roomy gives each list of a term room behind its end, in which something stands.
func roomy(t api.Term) api.Term {
	list := make([]api.Term, len(t.Kids), len(t.Kids)+2)
	for i, kid := range t.Kids {
		list[i] = roomy(kid)
	}
	spoil(list[len(list):], numbered(99, 99, text("behind")))
	t.Kids = list
	return t
}

// spoil writes over a list, and what lies behind it.
func spoil[T any](list []T, x T) {
	list = list[:cap(list)]
	for i := range list {
		list[i] = x
	}
}

// everything tells all that a program is, what lies behind its lists included.
func everything(p api.Program) string {
	s := fmt.Sprint(p.Types, len(p.Funcs))
	for _, f := range p.Funcs[:cap(p.Funcs)] {
		s += fmt.Sprint(f.Name, f.Nodes, f.Params[:cap(f.Params)], f.Results[:cap(f.Results)], f.Slots[:cap(f.Slots)])
		s += tellTerm(f.Body)
	}
	return s
}

func tellTerm(t api.Term) string {
	s := fmt.Sprint("(", t.Op, " ", t.Type, " ", t.N, " ", t.Text, " ", len(t.Kids))
	for _, kid := range t.Kids[:cap(t.Kids)] {
		s += tellTerm(kid)
	}
	return s + ")"
}

// spoilLines writes over lines, and over their arms.
func spoilLines(l []api.Line) {
	for _, x := range l {
		spoil(x.X.Arms, api.Arm{Value: 77, To: 77})
	}
	spoil(l, api.Line{Label: 77, X: api.Instr{Op: 77}})
}

// What is handed in stays as it is; what is answered is new each time.
func TestP16_4NewMemory(t *testing.T) {
	atWill(t, 166, 150, func(m *maker, p api.Program) {
		p.Funcs = append(slices.Clone(p.Funcs), api.Func{Name: "behind", Slots: []int{77}})[:len(p.Funcs)]
		for i := range p.Funcs {
			p.Funcs[i].Body = roomy(p.Funcs[i].Body)
		}
		before := everything(p)
		texts, _ := Texts(p)
		want := slices.Clone(texts)
		spoil(texts, "spoilt")
		if again, wrong := Texts(p); wrong != api.OK || !slices.Equal(again, want) {
			t.Fatalf("behind a change of the answer: %q, %d, want %q", again, wrong, want)
		}
		for i := range p.Funcs {
			l, _ := Func(p, i)
			text := written(t, l)
			size, _ := Size(p, i)
			spoilLines(l)
			again, wrong := Func(p, i)
			if sizeNow, _ := Size(p, i); wrong != api.OK || written(t, again) != text || sizeNow != size {
				t.Fatalf("behind a change of the answer: %s, %d", short(again), wrong)
			}
		}
		if now := everything(p); now != before {
			t.Fatalf("handed in: %s\nnow it is: %s", short(before), short(now))
		}
	})
}

// What was answered does not change with the program.
func TestP16_4NotKept(t *testing.T) {
	p := made(t, `fn f(a i8) bytes { switch a { case 3, 1: return "x"; case 2: while true { } } return "y"; }`)
	l, _ := Func(p, 0)
	texts, _ := Texts(p)
	want := written(t, l)
	var spoilTerm func(t api.Term)
	spoilTerm = func(t api.Term) {
		for _, kid := range t.Kids {
			spoilTerm(kid)
		}
		spoil(t.Kids, numbered(99, 99, text("spoilt")))
	}
	spoilTerm(p.Funcs[0].Body)
	spoil(p.Funcs, api.Func{Name: "spoilt"})
	if written(t, l) != want || !slices.Equal(texts, []string{"x", "y"}) {
		t.Errorf("behind a change of the program: %s, %q, want %s", written(t, l), texts, want)
	}
}

// No two lists of one answer share memory.
func TestP16_4Within(t *testing.T) {
	arms := numbered(api.SSwitch, 0, whole(api.I8, 1), term(api.SCase, whole(api.I8, 2), whole(api.I8, 1), term(api.SBlock)), term(api.SBlock))
	again := arms
	again.N = 1
	p := api.Program{Funcs: []api.Func{{Name: "f", Body: term(api.SBlock, arms, again)}}}
	want, _ := Func(p, 0)
	for i := range want {
		l, _ := Func(p, 0)
		spoil(l[i].X.Arms, api.Arm{Value: 77})
		spoil(l[len(l):cap(l)], api.Line{Label: 77})
		l[i] = want[i]
		if !linear.Same(l, want) {
			t.Errorf("behind a change of line %d: %s", i, short(l))
		}
	}
}
