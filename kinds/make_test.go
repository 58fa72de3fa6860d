package kinds

import (
	"math/rand"
	"slices"
	"strconv"
	"strings"
	"testing"

	"trammel/api"
	"trammel/parse"
)

// read tells the tree of a source that is right.
func read(t *testing.T, s string) api.Node {
	t.Helper()
	n, place, wrong := parse.Source(s)
	if wrong != api.OK {
		t.Fatalf("%.300q: %d at %d", s, wrong, place)
	}
	return n
}

// typeTree tells the tree of a type that is written right.
func typeTree(t *testing.T, s string) api.Node {
	t.Helper()
	n, place, wrong := parse.Type(s)
	if wrong != api.OK {
		t.Fatalf("type %.300q: %d at %d", s, wrong, place)
	}
	return n
}

// row writes texts, each made of a number from 0 on, with a text between.
func row(count int, between string, f func(int) string) string {
	var list []string
	for i := range count {
		list = append(list, f(i))
	}
	return strings.Join(list, between)
}

// numbered tells a function that writes a text in which # stands for the number.
func numbered(form string) func(int) string {
	return func(i int) string { return strings.ReplaceAll(form, "#", strconv.Itoa(i)) }
}

// deep tells the tree of a type within so many growable arrays, each at the place that tells how many lie in it.
func deep(times int, innermost api.Node) api.Node {
	for i := range times {
		innermost = api.Node{Kind: api.NGrow, At: i, Kids: []api.Node{innermost}}
	}
	return innermost
}

// withType tells a program of one function with a parameter of that type.
func withType(typ api.Node) api.Node {
	field := api.Node{Kind: api.NField, Text: "a", Kids: []api.Node{typ}}
	kids := []api.Node{{Kind: api.NParams, Kids: []api.Node{field}}, {Kind: api.NTypes}, {Kind: api.NBlock}}
	return api.Node{Kind: api.NProgram, Kids: []api.Node{{Kind: api.NFunc, Text: "f", Kids: kids}}}
}

// author makes sources at will. Of the names and lengths in them one in slips is wrong; none, if that is 0.
type author struct {
	*rand.Rand
	slips   int
	records []string
}

func newAuthor(seed int64, slips int) *author {
	return &author{Rand: rand.New(rand.NewSource(seed)), slips: slips}
}

func (m *author) one(texts ...string) string { return texts[m.Intn(len(texts))] }

func (m *author) slip() bool { return m.slips > 0 && m.Intn(m.slips) == 0 }

func (m *author) some(least, most int, between string, part func() string) string {
	return row(least+m.Intn(most-least+1), between, func(int) string { return part() })
}

func (m *author) program() string {
	m.records = nil
	for _, name := range []string{"P", "Q", "R", "Ab_9", "i16"} {
		if m.Intn(2) == 0 {
			m.records = append(m.records, name)
		}
	}
	if len(m.records) > 0 && m.slip() {
		m.records = append(m.records, m.records[0])
	}
	var items []string
	for _, name := range m.records {
		items = append(items, m.record(name))
	}
	for range m.Intn(3) {
		items = append(items, m.function())
	}
	m.Shuffle(len(items), func(i, j int) { items[i], items[j] = items[j], items[i] })
	return strings.Join(items, "\n")
}

func (m *author) record(name string) string {
	fields := []string{"a", "b", "c", "P", "x"}[:m.Intn(6)]
	fields = slices.Clone(fields)
	if len(fields) > 1 && m.slip() {
		fields[len(fields)-1] = fields[0]
	}
	for i := range fields {
		fields[i] += " " + m.typ() + ";"
	}
	return "record " + name + " { " + strings.Join(fields, " ") + " }"
}

func (m *author) function() string {
	params := m.some(0, 3, ", ", func() string { return "a " + m.typ() }) // two of one name are not this layer's to tell
	results := m.one("", m.typ(), "("+m.some(1, 3, ", ", m.typ)+")")
	return "fn f(" + params + ") " + results + " " + m.block(2)
}

func (m *author) typ() string {
	switch k := m.Intn(10); {
	case k < 2:
		return "[]" + m.typ()
	case k < 4:
		return "[" + m.length() + "]" + m.typ()
	case k < 7 && len(m.records) > 0:
		return m.one(m.records...)
	}
	if m.slip() {
		return m.one("T", "i1", "Bool")
	}
	return m.one("i8", "i32", "i64", "bool", "bytes")
}

func (m *author) length() string {
	if m.slip() {
		return m.one("0", "65537", "4294967297", "9223372036854775809", "18446744073709551615")
	}
	return m.one("1", "2", "3", "65536")
}

func (m *author) block(size int) string {
	return "{ " + m.some(0, 3, " ", func() string { return m.stmt(size) }) + " }"
}

// stmt makes a statement; all the places in which a value may stand, and with it a type, are among those that it makes.
func (m *author) stmt(size int) string {
	v := func() string { return m.value(2) }
	b := func() string { return m.block(size - 1) }
	if size == 0 {
		return m.one("break;", "trap 7;", "return;", "x = "+v()+";")
	}
	switch m.Intn(12) {
	case 0:
		return b()
	case 1:
		return "var a, b = " + v() + ";"
	case 2:
		return "a, b = " + v() + ";"
	case 3:
		return "f(" + v() + ").x[" + v() + "] = " + v() + ";"
	case 4:
		return "push(" + v() + ", " + v() + ");"
	case 5:
		return "if " + v() + " " + b() + m.one("", " else "+b(), " else if "+v()+" "+b())
	case 6:
		return m.one("", "L: ") + "while " + v() + " " + b()
	case 7:
		return "for " + m.one("", "var i = "+v(), "i = "+v()) + "; " + m.one("", v()) + "; " + m.one("", "push(x, "+v()+")") + " " + b()
	case 8:
		return "switch " + v() + " { case 1, -2: " + m.stmt(size-1) + " case 3: " + m.one("", "default: "+m.stmt(size-1)) + " }"
	case 9:
		return "return " + m.some(1, 3, ", ", v) + ";"
	case 10:
		return "f(" + m.some(0, 3, ", ", v) + ");"
	}
	return m.stmt(0)
}

func (m *author) value(size int) string {
	if size == 0 {
		return m.one("a", "1i8", "\"P\"", "true", "new "+m.typ()+"()")
	}
	v := func() string { return m.value(size - 1) }
	return m.one("new "+m.typ()+"("+m.some(0, 3, ", ", v)+")", "f("+v()+", "+v()+")", "i8("+v()+")", "len("+v()+")", "cut("+v()+", "+v()+", "+v()+")",
		"-("+v()+")", "("+v()+") "+m.one("+", "*", "==", "&&", "||", "<<")+" ("+v()+")", "a.x["+v()+"]", "("+v()+").P", "byte(pop("+v()+"))")
}

// place gives each node of a tree a place of its own, in no order; some are below 0.
func (m *author) place(n *api.Node) {
	var nodes []*api.Node
	each(n, func(k *api.Node) { nodes = append(nodes, k) })
	for i, at := range m.Perm(len(nodes)) {
		nodes[i].At = at - 5
	}
}

// each calls f with each node of a tree, of a node first with its Kids.
func each(n *api.Node, f func(*api.Node)) {
	for i := range n.Kids {
		each(&n.Kids[i], f)
	}
	f(n)
}
