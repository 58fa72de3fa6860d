package flow

import (
	"fmt"
	"reflect"
	"strings"
	"testing"

	"trammel/api"
	"trammel/check"
)

// answers holds Check to what is wanted.
func answers(t *testing.T, name string, p api.Program, place int, wrong api.Errno) {
	t.Helper()
	if gotPlace, gotWrong := Check(p); gotPlace != place || gotWrong != wrong {
		t.Errorf("%s: %d, %d, want %d, %d", name, gotPlace, gotWrong, place, wrong)
	}
}

func TestP9_3Sources(t *testing.T) {
	for _, s := range []struct {
		source string
		place  int
		wrong  api.Errno
	}{
		{"", 0, api.OK},
		{"record P { a i8; }", 0, api.OK},
		{"fn f() { }", 0, api.OK},
		{"fn f() { return; }", 0, api.OK},
		{"fn f() { while true { } }", 0, api.OK},
		{"fn f() i8 { }", 0, api.ErrEnd},
		{"fn f() (i8, bool) { }", 0, api.ErrEnd},
		{"fn f() i8 { return 1i8; }", 0, api.OK},
		{"fn f() (i8, bool) { return 1i8, true; }", 0, api.OK},
		{"fn f() i8 { trap 1; }", 0, api.OK},
		{"fn f() i8 { while true { } }", 0, api.OK},
		{"fn f() i8 { while true { break; } }", 0, api.ErrEnd},
		{"fn f() i8 { for ; ; { } }", 0, api.OK},
		{"fn f() i8 { for ; true; { break; } }", 0, api.ErrEnd},
		{"fn f(a bool) i8 { if a { return 1i8; } }", 0, api.ErrEnd},
		{"fn f(a bool) i8 { if a { return 1i8; } else { trap 0; } }", 0, api.OK},
		{"fn f() i8 { if true { return 1i8; } }", 0, api.ErrEnd},
		{"fn f() i8 { f(); }", 0, api.ErrEnd},
		{"fn f() i8 { return 1i8; f(); }", 0, api.OK},
		{"fn f(n i64) i8 { switch n { case 1: return 1i8; } }", 0, api.ErrEnd},
		{"fn f(n i64) i8 { switch n { default: return 1i8; } }", 0, api.OK},
		{"fn f() i8 { return 1i8; } fn g() i8 { }", 1, api.ErrEnd},
		{"fn f() { } fn g() i8 { }", 1, api.ErrEnd},
		{"fn f() i8 { } fn g() i8 { }", 0, api.ErrEnd},
		{"fn f() i8 { } fn g() { }", 0, api.ErrEnd},
		{"fn f() { } fn g() { } fn h() i8 { trap 1; }", 0, api.OK},
		{"record P { a i8; } fn f() { } record Q { b P; } fn g() Q { }", 1, api.ErrEnd},
		{"fn f(n i64) i64 { if n < 2 { return 1; } return n * f(n - 1); }", 0, api.OK},
	} {
		answers(t, s.source, made(t, s.source), s.place, s.wrong)
	}
}

// A program that may not be is told as check.Valid does, whatever ends in it.
func TestP9_3Valid(t *testing.T) {
	ends := api.Func{Name: "f", Results: []int{api.I8}, Body: none}
	other := func(f api.Func) api.Program { return api.Program{Funcs: []api.Func{ends, f}} }
	many := block(make([]api.Term, api.MaxNodes)...)
	full := block(make([]api.Term, api.MaxNodes-1)...)
	for i := range full.Kids {
		full.Kids[i] = none
	}
	answers(t, "a function of nothing", api.Program{Funcs: []api.Func{{}}}, 0, api.ErrTree)
	answers(t, "a name twice", other(ends), 0, api.ErrTree)
	answers(t, "no block", other(api.Func{Name: "g", Body: back}), 0, api.ErrTree)
	answers(t, "a loop's number", other(api.Func{Name: "g", Body: block(loop(1, yes, none, none))}), 0, api.ErrTree)
	answers(t, "a break of nothing", other(api.Func{Name: "g", Body: block(left(0))}), 0, api.ErrTree)
	answers(t, "types", api.Program{Types: []api.Type{{}}, Funcs: []api.Func{ends}}, 0, api.ErrTree)
	answers(t, "too many terms", other(api.Func{Name: "g", Body: many}), 0, api.ErrLimit)
	answers(t, "too many terms, and a name twice", other(api.Func{Name: "f", Body: many}), 0, api.ErrLimit)
	answers(t, "terms that hold themselves", other(api.Func{Name: "g", Body: round()}), 0, api.ErrLimit)
	answers(t, "as many terms as may be", other(api.Func{Name: "g", Body: full}), 0, api.ErrEnd)
	answers(t, "by hand", other(api.Func{Name: "g", Body: none}), 0, api.ErrEnd)
	answers(t, "nothing", api.Program{}, 0, api.OK)
	answers(t, "empty lists", api.Program{Types: []api.Type{}, Funcs: []api.Func{}}, 0, api.OK)
	answers(t, "empty results", api.Program{Funcs: []api.Func{{Name: "f", Results: []int{}, Body: none}}}, 0, api.OK)
}

// round tells a block that holds itself.
func round() api.Term {
	x := block(none)
	x.Kids[0].Kids = x.Kids
	return x
}

// As many functions as may be: the place is that of the first one of those that end.
func TestP9_3Places(t *testing.T) {
	for _, first := range []int{0, 1, 127, 254, 255, 256} {
		var b strings.Builder
		for i := range api.MaxFuncs {
			inner := "trap 1;"
			if i >= first && (i-first)%3 == 0 {
				inner = ""
			}
			fmt.Fprintf(&b, "fn f%d() i8 { %s }", i, inner)
		}
		if first == api.MaxFuncs {
			answers(t, "none", made(t, b.String()), 0, api.OK)
			continue
		}
		answers(t, fmt.Sprint("from ", first), made(t, b.String()), first, api.ErrEnd)
	}
}

// plainCheck tells what Check should, by the second reading.
func plainCheck(p api.Program) (int, api.Errno) {
	if wrong := check.Valid(p); wrong != api.OK {
		return 0, wrong
	}
	for i, f := range p.Funcs {
		if ends, _, _ := plain(f.Body); ends && len(f.Results) > 0 {
			return i, api.ErrEnd
		}
	}
	return 0, api.OK
}

func TestP9_3AtWill(t *testing.T) {
	m := newAuthor(93)
	count := map[api.Errno]int{}
	for range 4000 {
		p := made(t, m.program())
		if m.Intn(3) == 0 {
			m.spoil(&p)
		}
		ahead := copiedProgram(p)
		place, wrong := plainCheck(p)
		answers(t, fmt.Sprint(p), p, place, wrong)
		if !reflect.DeepEqual(p, ahead) {
			t.Fatalf("%v: changed to %v", ahead, p)
		}
		count[wrong]++
	}
	for _, wrong := range []api.Errno{api.OK, api.ErrEnd, api.ErrTree} {
		if count[wrong] < 200 {
			t.Errorf("%d of the answers are %d", count[wrong], wrong)
		}
	}
}

// spoil changes one term of a program, whether it may be then or not.
func (m *author) spoil(p *api.Program) {
	var all []*api.Term
	eachTerm(&p.Funcs[m.Intn(len(p.Funcs))].Body, func(t *api.Term) { all = append(all, t) })
	x := all[m.Intn(len(all))]
	switch m.Intn(4) {
	case 0:
		x.Op = m.op()
	case 1:
		x.N = m.number()
	case 2:
		x.Kids = append(x.Kids, m.term(2))
	case 3:
		x.Kids = nil
	}
}

func copiedProgram(p api.Program) api.Program {
	list := make([]api.Func, len(p.Funcs))
	for i, f := range p.Funcs {
		f.Body = copiedTerm(f.Body)
		list[i] = f
	}
	p.Funcs = list
	return p
}
