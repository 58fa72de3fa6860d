package check

import (
	"fmt"
	"slices"
	"strings"
	"testing"

	"trammel/api"
	"trammel/kinds"
	"trammel/lex"
	"trammel/parse"
)

// follows holds a source to what the chapter says of all of them.
func follows(t *testing.T, m *author, s string) {
	t.Helper()
	p, place, wrong := Program(read(t, s))
	if wrong == api.OK && Valid(p) != api.OK {
		t.Fatalf("%s\nmay not be: %d", s, Valid(p))
	}
	blanks, moved := m.spread(s)
	if len(blanks) > api.MaxSource {
		return
	}
	other, otherPlace, otherWrong := Program(read(t, blanks))
	if otherWrong != wrong || wrong != api.OK && otherPlace != moved[place] {
		t.Fatalf("%s\n%d at %d, with blanks %d at %d", s, wrong, place, otherWrong, otherPlace)
	}
	if tellProgram(p) != tellProgram(other) || !Same(p, other) {
		t.Fatalf("%s\nwith blanks another program", s)
	}
}

// spread writes a source's tokens with other blanks between them, and tells where which of them has come.
func (m *author) spread(s string) (string, map[int]int) {
	tokens, _, _ := lex.Tokens(s)
	moved := map[int]int{}
	var b strings.Builder
	for _, x := range tokens {
		b.WriteString(m.one(" ", "\n", "\t ", " // x\n", "\r\n", " //\n\n", " // \"{\n "))
		moved[x.At] = b.Len()
		b.WriteString(s[x.At:x.End])
	}
	b.WriteString(m.one("", " ", " // end"))
	return b.String(), moved
}

func TestP8_4AtWill(t *testing.T) {
	for i, slips := range []int{0, 150} {
		m := newAuthor(int64(840+i), slips)
		for range 400 {
			follows(t, m, m.program())
		}
	}
}

// A function behind a program, with a name of its own, changes no other one; nor does it, if it is wrong, what is told ahead of it.
func TestP8_4FunctionMore(t *testing.T) {
	for i, slips := range []int{0, 200} {
		m := newAuthor(int64(842+i), slips)
		for range 400 {
			s := m.program()
			p, place, wrong := Program(read(t, s))
			more := "\n" + m.one("fn more() { }", "fn more(a [7]i8) []bool { return more(a); }", "fn more() P { while true { } return more().p; }", "fn more(a [2][]bool) i64 { return len(a); }")
			q, placeQ, wrongQ := Program(read(t, s+more))
			if wrongQ != wrong || placeQ != place {
				t.Fatalf("%s%s\n%d at %d, want %d at %d", s, more, wrongQ, placeQ, wrong, place)
			}
			if wrong != api.OK {
				continue
			}
			if len(q.Funcs) != len(p.Funcs)+1 || q.Funcs[len(p.Funcs)].Name != "more" || len(q.Types) < len(p.Types) {
				t.Fatalf("%s%s\n%s", s, more, tellProgram(q))
			}
			q.Funcs, q.Types = q.Funcs[:len(p.Funcs)], q.Types[:len(p.Types)]
			if tellProgram(p) != tellProgram(q) {
				t.Fatalf("%s%s\nchanges another one", s, more)
			}
		}
	}
}

// Functions and records in another order: each function is the same, where calls' places, and the types' numbers, move with them.
func TestP8_4Order(t *testing.T) {
	m := newAuthor(844, 0)
	for range 400 {
		s := m.program()
		n := read(t, s)
		p, _, wrong := Program(n)
		moved := n
		moved.Kids = slices.Clone(n.Kids)
		m.Shuffle(len(moved.Kids), func(i, k int) { moved.Kids[i], moved.Kids[k] = moved.Kids[k], moved.Kids[i] })
		q, _, wrongQ := Program(moved)
		if wrong != api.OK || wrongQ != api.OK {
			t.Fatalf("%s\n%d, in another order %d", s, wrong, wrongQ)
		}
		if a, b := byNames(p), byNames(q); !slices.Equal(a, b) {
			t.Fatalf("%s\n%s\nin another order\n%s", s, strings.Join(a, "\n"), strings.Join(b, "\n"))
		}
		if Valid(q) != api.OK {
			t.Fatalf("%s\nin another order it may not be", s)
		}
	}
}

// byNames tells the functions of a program, by their names in order, with names in the place of functions' and types' numbers.
func byNames(p api.Program) []string {
	var list []string
	name := func(typ int) string { return kinds.Name(p.Types, typ) }
	var term func(t api.Term) string
	term = func(t api.Term) string {
		s := fmt.Sprint(t.Op, ":", name(t.Type), t.Text)
		if t.Op == api.XCall {
			s += p.Funcs[t.N].Name
		} else {
			s += fmt.Sprint("#", t.N)
		}
		for _, k := range t.Kids {
			s += " " + term(k)
		}
		return s + ";"
	}
	for _, f := range p.Funcs {
		s := f.Name
		for _, types := range [][]int{f.Params, f.Results, f.Slots} {
			for _, typ := range types {
				s += " " + name(typ)
			}
			s += ";"
		}
		list = append(list, fmt.Sprint(s, f.Nodes, term(f.Body)))
	}
	slices.Sort(list)
	return list
}

func FuzzProgram(f *testing.F) {
	for _, s := range []string{
		"", "fn f(a i8, b []i64) i64 { var c = b[0]; return c + 1; }", head + "}", head + "L: for var k = 0; k < 3; k = k + 1 { switch a { case 255, -1: break L; default: continue; } } }",
		"fn g() (i8, bool) { var a, b = g(); a, b = g(); return a, b; }", "record P { p P; t bytes; } fn f(p P) { p.p.t = p.t + byte(p.t[0]); if p.t == \"\" { trap 1; } else if !true { } }",
	} {
		f.Add(s)
	}
	m := newAuthor(845, 100)
	for range 20 {
		f.Add(m.program())
	}
	f.Fuzz(func(t *testing.T, s string) {
		n, _, wrong := parse.Source(s)
		if wrong != api.OK {
			return
		}
		p, wrong := asPlain(t, s, n)
		if wrong == api.OK && (Valid(p) != api.OK || plainValid(p) != api.OK) {
			t.Fatalf("%q: may not be", s)
		}
	})
}
