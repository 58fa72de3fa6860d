package print

import (
	"strings"
	"testing"

	"trammel/api"
	"trammel/lex"
	"trammel/parse"
)

// again holds what is printed of a tree to what follows: it is read as the same tree, and printed again it is the same text.
func again(t *testing.T, which int, n api.Node) string {
	t.Helper()
	s, wrong := calls[which].print(n)
	if wrong != api.OK {
		t.Fatalf("%s of %s: %d", calls[which].name, tell(n), wrong)
	}
	m, place, wrong := calls[which].read(s)
	if wrong != api.OK || !equal(n, m) || !Same(n, m) {
		t.Fatalf("%q is read as %s, %d at %d, and not as %s", s, tell(m), wrong, place, tell(n))
	}
	if twice, wrong := calls[which].print(m); wrong != api.OK || twice != s {
		t.Fatalf("%q, printed again: %q, %d", s, twice, wrong)
	}
	return s
}

func TestP5_3ReadAgain(t *testing.T) {
	m := newMaker(54)
	for range 3000 {
		again(t, source, m.program())
		again(t, expr, m.expr(6))
		again(t, typ, m.typeOf(9))
	}
}

// Sources with needless brackets and blanks at will: read, printed and read.
func TestP5_3Sources(t *testing.T) {
	m := newMaker(55)
	p := plain{needless: func() bool { return m.Intn(4) == 0 }}
	for range 3000 {
		n, x := m.program(), m.expr(5)
		sourceAgain(t, source, m.jumbled(p.program(n)), n)
		sourceAgain(t, expr, m.jumbled(p.part(x, 0)), x)
	}
	for _, s := range []string{"a - b - c", "a - (b - c)", "(((a)))", "- - 1", "(a < b) == (c < d)", "(a == b) && !(c != d) || e", "new [3]P(a)[0].x"} {
		n, _, wrong := parse.Expr(s)
		if wrong != api.OK {
			t.Fatalf("%q: %d", s, wrong)
		}
		sourceAgain(t, expr, s, n)
	}
}

func sourceAgain(t *testing.T, which int, s string, want api.Node) {
	t.Helper()
	n, place, wrong := calls[which].read(s)
	if wrong != api.OK || !equal(n, want) {
		t.Fatalf("%q: %s, %d at %d, want %s", s, tell(n), wrong, place, tell(want))
	}
	again(t, which, n)
}

// A source may be read, and its print be too long: it is indented.
func TestP5_3LongPrint(t *testing.T) {
	deep := "fn f(){" + strings.Repeat("{", 60) + strings.Repeat("a=1;", 900) + strings.Repeat("}", 60) + "}"
	n, _, wrong := parse.Source(deep)
	if wrong != api.OK {
		t.Fatalf("the source: %d", wrong)
	}
	again(t, source, n)
	n, _, wrong = parse.Source(strings.Replace(deep, "a=1;", strings.Repeat("a=1;", 200), 1))
	if wrong != api.OK {
		t.Fatalf("the longer source: %d", wrong)
	}
	refuses(t, source, n, api.ErrLimit)
}

// No two trees have one print: all small expressions, and some programs that differ in little.
func TestP5_3OnePrintEach(t *testing.T) {
	prints := map[string]api.Node{}
	look := func(which int, n api.Node) {
		t.Helper()
		s := again(t, which, n)
		if other, ok := prints[s]; ok && !equal(other, n) {
			t.Fatalf("%s and %s: %q", tell(other), tell(n), s)
		}
		prints[s] = n
	}
	few := exprs()
	for _, x := range few {
		look(expr, x)
		for _, kind := range []uint8{api.XNeg, api.XNot, api.XFlip, api.XLen, api.XByte, api.XPop} {
			look(expr, node(kind, x))
			look(expr, node(kind, node(api.XNeg, x)))
		}
		for _, y := range few {
			for kind := api.XAdd; kind <= api.XEither; kind++ {
				look(expr, node(kind, x, y))
			}
			look(expr, node(api.XAt, x, y))
			look(expr, named(api.XCall, "f", x, y))
			look(expr, named(api.XField, "x", node(api.XAt, x, y)))
			look(expr, node(api.XNew, i8, x, y))
		}
	}
	x := node(api.NDo, call)
	for _, n := range []api.Node{
		inFunction(), inFunction(block), inFunction(x), inFunction(node(api.NBlock, x)), inFunction(block, x), inFunction(x, block), inFunction(node(api.NIf, a, block)), inFunction(node(api.NIf, a, block, block)), inFunction(node(api.NIf, a, block), block),
		inFunction(node(api.NIf, a, block, node(api.NIf, a, block))), inFunction(node(api.NIf, a, block, node(api.NBlock, node(api.NIf, a, block)))), inFunction(node(api.NIf, a, block), node(api.NIf, a, block)),
		inFunction(node(api.NIf, a, block, node(api.NIf, a, block, block))), inFunction(node(api.NIf, a, node(api.NBlock, node(api.NIf, a, block)), block)), inFunction(node(api.NIf, a, node(api.NBlock, node(api.NIf, a, block, block)))),
		inFunction(node(api.NFor, node(api.NSet, a, one), none, none, block)), inFunction(node(api.NFor, none, none, node(api.NSet, a, one), block)), inFunction(node(api.NFor, none, a, none, block)),
		inFunction(node(api.NSwitch, a, node(api.NCase, one, block), node(api.NDefault, node(api.NBlock, x)))), inFunction(node(api.NSwitch, a, node(api.NCase, one, node(api.NBlock, x)), node(api.NDefault, block))), inFunction(node(api.NSwitch, a, node(api.NCase, one, block)), x), inFunction(node(api.NSwitch, a, node(api.NCase, one, node(api.NBlock, block)))),
		inFunction(node(api.NReturn)), inFunction(node(api.NReturn, a)), inFunction(node(api.NReturn), x), inFunction(node(api.NBreak)), inFunction(named(api.NBreak, "a")), inFunction(named(api.NWhile, "a", a, block)), inFunction(node(api.NWhile, a, block)),
	} {
		look(source, n)
	}
}

// Where a pair of brackets is left out, it is another tree, or none; whatever the pair stands around.
func TestP5_3Brackets(t *testing.T) {
	m := newMaker(56)
	pairs := 0
	for range 500 {
		n, x := m.program(), m.expr(6)
		pairs += leaveOut(t, source, again(t, source, n), n)
		pairs += leaveOut(t, expr, again(t, expr, x), x)
	}
	if pairs < 5000 {
		t.Errorf("%d pairs", pairs)
	}
}

// leaveOut leaves out each pair of brackets of a text in turn, and tells how many there are.
func leaveOut(t *testing.T, which int, s string, n api.Node) int {
	t.Helper()
	var open []int
	pairs := 0
	for _, x := range lex.Each(s) {
		switch {
		case x.Kind == api.TokSign && x.Text == "(":
			open = append(open, x.At)
		case x.Kind == api.TokSign && x.Text == ")":
			from := open[len(open)-1]
			open = open[:len(open)-1]
			without := s[:from] + " " + s[from+1:x.At] + " " + s[x.End:]
			if reads(which, without, n) {
				t.Fatalf("%q and %q are one tree", s, without)
			}
			pairs++
		}
	}
	return pairs
}

// Whatever source can be read, its print is one, too, and the same tree.
func FuzzSource(f *testing.F) {
	m := newMaker(57)
	for range 20 {
		f.Add(plain{}.program(m.program()))
		f.Add(plain{}.text(m.expr(4)))
	}
	f.Fuzz(func(t *testing.T, s string) {
		for which, c := range calls {
			if n, _, wrong := c.read(s); wrong == api.OK && len(s) < 1000 {
				again(t, which, n)
			}
		}
	})
}
