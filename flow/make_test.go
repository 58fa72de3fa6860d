package flow

import (
	"fmt"
	"math/rand"
	"slices"
	"strings"

	"trammel/api"
)

// author makes terms and sources at will.
type author struct {
	*rand.Rand
	funcs  []string // the results of each function
	labels []string // of the turns around; those of loops begin with L
	gives  string
	size   int // how many statements a function may still have
}

func newAuthor(seed int64) *author { return &author{Rand: rand.New(rand.NewSource(seed))} }

func (m *author) one(texts ...string) string { return texts[m.Intn(len(texts))] }

// op makes a kind of a term: mostly one of those that matter.
func (m *author) op() uint8 {
	if m.Intn(12) == 0 {
		return uint8(m.Intn(256))
	}
	ops := []uint8{
		api.SBlock, api.SBlock, api.SIf, api.SLoop, api.SLoop, api.SSwitch, api.SSwitch, api.SCase,
		api.SBreak, api.SBreak, api.SNext, api.SNext, api.SReturn, api.STrap, api.SDo, api.SPut, api.XTrue, api.XName,
	}
	return ops[m.Intn(len(ops))]
}

// number makes a turn's number: few of them, so that many turns have the same.
func (m *author) number() int64 {
	return []int64{0, 1, 1, 2, 2, 3, -1, 1 << 62}[m.Intn(8)]
}

// term makes a term, whose Kids are few or many, and stand in their places or not.
func (m *author) term(depth int) api.Term {
	t := api.Term{Op: m.op(), N: m.number()}
	if depth == 0 {
		return t
	}
	if m.Intn(4) > 0 {
		t.Kids = m.right(t.Op, depth-1)
		return t
	}
	for range m.Intn(5) {
		t.Kids = append(t.Kids, m.term(depth-1))
	}
	return t
}

// right makes the Kids that a term of that kind has by rights.
func (m *author) right(op uint8, depth int) []api.Term {
	test := []api.Term{yes, may}[m.Intn(2)]
	switch op {
	case api.SBlock:
		return m.terms(m.Intn(4), depth)
	case api.SIf, api.SLoop:
		return append([]api.Term{test}, m.terms(2, depth)...)
	case api.SSwitch:
		kids := []api.Term{one}
		for range m.Intn(3) {
			kids = append(kids, arm(one, m.term(depth)))
		}
		return append(kids, m.term(depth))
	case api.SCase:
		return []api.Term{one, m.term(depth)}
	}
	return nil
}

func (m *author) terms(count, depth int) []api.Term {
	var list []api.Term
	for range count {
		list = append(list, m.term(depth))
	}
	return list
}

// program makes a source: functions that call one another, of which some have an end that is come to.
func (m *author) program() string {
	m.funcs = nil
	for range 1 + m.Intn(5) {
		m.funcs = append(m.funcs, m.one("", "i64", "bool", "(i64, bool)"))
	}
	var b strings.Builder
	for i, results := range m.funcs {
		m.labels, m.gives, m.size = nil, results, 2+m.Intn(20)
		fmt.Fprintf(&b, "fn f%d(a bool, n i64) %s { %s %s }\n", i, results, m.stmts(), m.last())
	}
	return b.String()
}

func (m *author) stmts() string {
	var list []string
	for range m.Intn(4) {
		list = append(list, m.stmt())
	}
	return strings.Join(list, " ")
}

// last makes what stands last in a function: mostly what does not end.
func (m *author) last() string {
	return m.one("", "while true { }", "trap 0;", m.giveBack(), m.giveBack(), "if a { "+m.giveBack()+" } else { trap 1; }", "for ; ; n = n + 1 { if a { continue; } }", "switch n { case 1: trap 2; default: "+m.giveBack()+" }")
}

func (m *author) giveBack() string {
	switch m.gives {
	case "i64":
		return "return n;"
	case "bool":
		return "return a;"
	case "(i64, bool)":
		return "return n, a;"
	}
	return "return;"
}

func (m *author) stmt() string {
	m.size--
	if m.size < 0 {
		return m.leaf()
	}
	test := m.one("true", "a", "false", "n < 3", "!true", "(true)", "true && true")
	switch m.Intn(7) {
	case 0:
		return "{ " + m.stmts() + " }"
	case 1:
		s := "if " + test + " { " + m.stmts() + " }"
		return s + m.one("", " else { "+m.stmts()+" }", " else if a { "+m.stmts()+" } else { "+m.stmts()+" }")
	case 2:
		return m.turn("L", "while "+test+" { ")
	case 3:
		return m.turn("L", "for "+m.one("", "var i = n")+"; "+m.one("", test)+"; "+m.one("", "n = n + 1", "f0(a, n)")+" { ")
	case 4:
		return m.turn("S", "switch n { ")
	}
	return m.leaf()
}

// turn makes a loop or a switch with a label of its own.
func (m *author) turn(kind, head string) string {
	label := fmt.Sprint(kind, len(m.labels))
	m.labels = append(m.labels, label)
	s := label + ": " + head
	if kind == "S" {
		for i := range m.Intn(3) {
			s += fmt.Sprintf("case %d: %s ", i, m.stmts())
		}
		s += m.one("", "default: "+m.stmts())
	} else {
		s += m.stmts()
	}
	m.labels = m.labels[:len(m.labels)-1]
	return s + " }"
}

func (m *author) leaf() string {
	list := []string{m.giveBack(), "trap 7;", "n = n - 1;", "a = !a;", fmt.Sprintf("f%d(a, n);", m.Intn(len(m.funcs)))}
	loop := func(label string) bool { return label[0] == 'L' }
	if len(m.labels) > 0 {
		list = append(list, "break;", "break "+m.one(m.labels...)+";")
	}
	if slices.ContainsFunc(m.labels, loop) {
		list = append(list, "continue;")
	}
	for _, label := range m.labels {
		if loop(label) {
			list = append(list, "continue "+label+";")
		}
	}
	return m.one(list...)
}
