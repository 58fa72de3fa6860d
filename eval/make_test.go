package eval

import (
	"fmt"
	"math/rand"
	"slices"
	"strings"

	"trammel/api"
)

// author makes sources of right programs at will, most of which come to their end soon.
type author struct {
	*rand.Rand
	funcs  []sign
	own    int // the function that is written
	locals []local
	blocks []int // how many locals there were when each open block began
	turns  []turn
	names  int // how many names of loops there were
}

// sign is what a function is given and gives.
type sign struct{ params, results []string }

// local is a local; a loop that counts by it would not come to its end, if it were put to.
type local struct {
	name, typ string
	counts    bool
}

type turn struct {
	label string
	loop  bool
}

var worldTypes = []string{"i8", "i32", "i64", "bool", "bytes", "P", "Q", "R", "[]i64", "[3]i8", "[]P", "[2][]bool", "[]bytes", "[]bool", "[]R"}

var worldFields = map[string][]local{
	"P": {{name: "x", typ: "i64"}, {name: "y", typ: "bool"}, {name: "t", typ: "bytes"}},
	"Q": {{name: "p", typ: "P"}, {name: "l", typ: "[]i64"}, {name: "n", typ: "i8"}, {name: "g", typ: "[3]i8"}},
	"R": {{name: "l", typ: "[]R"}, {name: "n", typ: "i32"}},
}

func newAuthor(seed int64) *author { return &author{Rand: rand.New(rand.NewSource(seed))} }

func (m *author) one(texts ...string) string { return texts[m.Intn(len(texts))] }

func (m *author) rarely() bool { return m.Intn(12) == 0 }

func (m *author) typ() string { return m.one(worldTypes...) }

func (m *author) number() string { return m.one("i8", "i32", "i64") }

// program makes a source whose functions with even numbers are given ints and bools alone.
func (m *author) program() string {
	m.funcs = nil
	for i := range 2 + m.Intn(4) {
		var f sign
		for range m.Intn(4) {
			typ := m.typ()
			if i%2 == 0 {
				typ = m.one("i8", "i32", "i64", "bool")
			}
			f.params = append(f.params, typ)
		}
		for range m.Intn(4) {
			f.results = append(f.results, m.typ())
		}
		m.funcs = append(m.funcs, f)
	}
	var b strings.Builder
	for _, name := range []string{"P", "Q", "R"} {
		b.WriteString("record " + name + " {")
		for _, f := range worldFields[name] {
			b.WriteString(" " + f.name + " " + f.typ + ";")
		}
		b.WriteString(" }\n")
	}
	for i := range m.funcs {
		b.WriteString(m.function(i) + "\n")
	}
	return b.String()
}

func (m *author) function(own int) string {
	f := m.funcs[own]
	m.own, m.locals, m.blocks, m.turns = own, nil, []int{0}, nil
	var params []string
	for i, typ := range f.params {
		name := fmt.Sprint("a", i)
		params = append(params, name+" "+typ)
		m.locals = append(m.locals, local{name: name, typ: typ})
	}
	results := ""
	if len(f.results) > 0 {
		results = " (" + strings.Join(f.results, ", ") + ")"
	}
	body := m.open(func() string { return m.stmts(3) + " " + m.back() })
	return fmt.Sprintf("fn f%d(%s)%s { %s }", own, strings.Join(params, ", "), results, body)
}

// open makes what stands in a block, whose locals end with it.
func (m *author) open(part func() string) string {
	ahead := len(m.locals)
	m.blocks = append(m.blocks, ahead)
	s := part()
	m.blocks = m.blocks[:len(m.blocks)-1]
	m.locals = m.locals[:ahead]
	return s
}

func (m *author) stmts(size int) string {
	var texts []string
	for range 1 + m.Intn(4) {
		texts = append(texts, m.stmt(size))
	}
	return strings.Join(texts, " ")
}

func (m *author) block(size int) string {
	return "{ " + m.open(func() string { return m.stmts(size - 1) }) + " }"
}

func (m *author) back() string {
	var list []string
	for _, typ := range m.funcs[m.own].results {
		list = append(list, m.value(typ, 2))
	}
	return "return " + strings.Join(list, ", ") + ";"
}

// declared makes a local of a type, under a name that hides no other one.
func (m *author) declared(typ string) string {
	name := fmt.Sprint(m.one("b", "c", "d"), len(m.locals))
	m.locals = append(m.locals, local{name: name, typ: typ})
	return name
}

// having tells the locals for which f holds.
func (m *author) having(f func(local) bool) []local {
	return slices.DeleteFunc(slices.Clone(m.locals), func(l local) bool { return !f(l) })
}

// ofType makes a local's name of a type; false, if there is none.
func (m *author) ofType(typ string) (string, bool) {
	list := m.having(func(l local) bool { return l.typ == typ })
	if len(list) == 0 {
		return "", false
	}
	return list[m.Intn(len(list))].name, true
}

func (m *author) stmt(size int) string {
	if size <= 0 {
		return m.leaf()
	}
	switch m.Intn(10) {
	case 0:
		return m.block(size)
	case 1, 2:
		if s := m.severally(true); s != "" {
			return s + ";"
		}
	case 3:
		s := "if " + m.value("bool", 3) + " " + m.block(size)
		return s + m.one("", " else "+m.block(size), " else if "+m.value("bool", 2)+" "+m.block(size)+" else "+m.block(size))
	case 4:
		test := m.value("bool", 2)
		if !m.rarely() {
			test += " && " + test + " == false"
		}
		return m.turn(true, func() string { return "while " + test + " " + m.block(size) })
	case 5, 6:
		return m.open(func() string { return m.forLoop(size) })
	case 7:
		typ := m.number()
		head := "switch " + m.value(typ, 2)
		return m.turn(false, func() string { return head + " { " + m.arms(typ, size) + "}" })
	}
	return m.leaf()
}

func (m *author) leaf() string {
	switch m.Intn(10) {
	case 0, 1:
		return m.leap()
	case 2:
		return "if " + m.value("bool", 2) + " { " + m.one(m.back(), m.back(), "trap "+m.one("0", "7", "255")+";") + " }"
	case 3, 4, 5:
		typ := m.typ()
		s := m.value(typ, 3)
		name := m.declared(typ)
		s = "var " + name + " = " + s + ";"
		if elem, ok := strings.CutPrefix(typ, "[]"); ok && m.Intn(4) > 0 { // lest most of them have nothing to tell
			s += " push(" + name + ", " + m.value(elem, 2) + ");"
		}
		return s
	}
	return m.simple() + ";"
}

// turn makes a loop or switch, perhaps with a label.
func (m *author) turn(loop bool, part func() string) string {
	label := ""
	if m.Intn(2) == 0 {
		m.names++
		label = fmt.Sprint("L", m.names)
	}
	m.turns = append(m.turns, turn{label, loop})
	s := part()
	m.turns = m.turns[:len(m.turns)-1]
	if label == "" {
		return s
	}
	return label + ": " + s
}

// leap makes a break or a continue, mostly one that is not always come to.
func (m *author) leap() string {
	word := m.one("break", "continue")
	var list []string
	for _, t := range m.turns {
		if word == "break" || t.loop {
			list = append(list, "")
			if t.label != "" {
				list = append(list, " "+t.label)
			}
		}
	}
	if len(list) == 0 {
		return "{ }"
	}
	s := word + m.one(list...) + ";"
	if m.Intn(3) > 0 {
		s = "if " + m.value("bool", 2) + " { " + s + " }"
	}
	return s
}

// forLoop makes a loop that counts, or one with parts at will.
func (m *author) forLoop(size int) string {
	if m.rarely() {
		return m.turn(true, func() string {
			return "for " + m.one("", m.simple()) + "; " + m.one("", m.value("bool", 2)) + "; " + m.one("", m.simple()) + " { " + m.stmts(size-1) + " break; }"
		})
	}
	name := m.declared("i64")
	m.locals[len(m.locals)-1].counts = true
	head := fmt.Sprintf("for var %s = 0; %s < %d; %s = %s + 1 ", name, name, m.Intn(6), name, name)
	return m.turn(true, func() string { return head + m.block(size) })
}

func (m *author) arms(typ string, size int) string {
	s := ""
	at := m.Perm(8)
	for range m.Intn(4) {
		numbers := ""
		for range 1 + m.Intn(2) {
			numbers += fmt.Sprint(m.one("", "-"), at[0], m.one("", typ), ", ")
			at = at[1:]
		}
		s += "case " + strings.TrimSuffix(numbers, ", ") + ": " + m.open(func() string { return m.stmts(size - 1) }) + " "
	}
	if m.Intn(2) == 0 {
		s += "default: " + m.open(func() string { return m.stmts(size - 1) }) + " "
	}
	return s
}

// called tells the functions that may be called here and for which f holds: mostly those behind.
func (m *author) called(f func(sign) bool) []int {
	var list []int
	for i, s := range m.funcs {
		if f(s) && (i > m.own || m.rarely() && m.rarely()) {
			list = append(list, i)
		}
	}
	return list
}

func (m *author) call(f, size int) string {
	var args []string
	for _, typ := range m.funcs[f].params {
		args = append(args, m.value(typ, size-1))
	}
	return fmt.Sprintf("f%d(%s)", f, strings.Join(args, ", "))
}

// severally makes what puts several results: to new names, or to locals that are there, some of them perhaps twice.
func (m *author) severally(fresh bool) string {
	list := m.called(func(f sign) bool { return len(f.results) > 1 })
	if len(list) == 0 {
		return ""
	}
	f := list[m.Intn(len(list))]
	s := m.call(f, 2)
	var names []string
	for _, typ := range m.funcs[f].results {
		if fresh {
			names = append(names, m.declared(typ))
			continue
		}
		free := m.having(func(l local) bool { return l.typ == typ && !l.counts })
		if len(free) == 0 {
			return ""
		}
		names = append(names, free[m.Intn(len(free))].name)
	}
	if fresh {
		return "var " + strings.Join(names, ", ") + " = " + s
	}
	return strings.Join(names, ", ") + " = " + s
}

// simple makes what may stand as a third part of a for.
func (m *author) simple() string {
	switch m.Intn(7) {
	case 0:
		if s := m.severally(false); s != "" {
			return s
		}
	case 1, 2:
		elem := m.one("i64", "P", "bytes", "bool", "R")
		return "push(" + m.value("[]"+elem, 2) + ", " + m.value(elem, 2) + ")"
	case 3:
		if list := m.called(func(sign) bool { return true }); len(list) > 0 {
			return m.call(list[m.Intn(len(list))], 2)
		}
	case 4, 5:
		if s := m.chain(); s != "" {
			return s
		}
	}
	if list := m.having(func(l local) bool { return !l.counts }); len(list) > 0 {
		l := list[m.Intn(len(list))]
		return l.name + " = " + m.value(l.typ, 3)
	}
	return "push(new []i64(), 1)"
}

// chain makes what puts to a field or to an element.
func (m *author) chain() string {
	list := m.having(func(l local) bool { return len(worldFields[l.typ]) > 0 || l.typ[0] == '[' })
	if len(list) == 0 {
		return ""
	}
	l := list[m.Intn(len(list))]
	s, typ := l.name, l.typ
	for tails := 0; ; tails++ {
		fields := worldFields[typ]
		switch {
		case tails > 0 && m.Intn(2) == 0 || typ[0] != '[' && len(fields) == 0:
			return s + " = " + m.value(typ, 2)
		case typ[0] == '[':
			s += "[" + m.index(s) + "]"
			typ = typ[strings.Index(typ, "]")+1:]
		default:
			f := fields[m.Intn(len(fields))]
			s, typ = s+"."+f.name, f.typ
		}
	}
}

// index makes a number that is mostly one of an element of what s is.
func (m *author) index(s string) string {
	if m.rarely() {
		return m.value("i64", 2)
	}
	return m.one("0", "len("+s+") / 2", "len("+s+") - 1")
}

// value makes an expression of a type, in brackets where it could be taken apart.
func (m *author) value(typ string, size int) string {
	if name, ok := m.ofType(typ); ok && m.Intn(5) > 1 {
		return name
	}
	if size > 0 && m.Intn(6) == 0 {
		list := m.called(func(f sign) bool { return len(f.results) == 1 && f.results[0] == typ })
		if len(list) > 0 {
			return m.call(list[m.Intn(len(list))], size-1)
		}
	}
	if size > 0 && m.Intn(4) == 0 {
		if s := m.inside(typ, size-1); s != "" {
			return s
		}
	}
	switch typ {
	case "i8", "i32", "i64":
		return m.whole(typ, size)
	case "bool":
		return m.truth(size)
	case "bytes":
		return m.text(size)
	}
	return m.thing(typ, size)
}

// inside makes a value of a type that lies in a record or array.
func (m *author) inside(typ string, size int) string {
	var list []func() string
	for _, whole := range worldTypes {
		for _, f := range worldFields[whole] {
			if f.typ == typ {
				list = append(list, func() string { return m.value(whole, size) + "." + f.name })
			}
		}
		if whole[0] != '[' || whole[strings.Index(whole, "]")+1:] != typ {
			continue
		}
		if array, ok := m.ofType(whole); ok && m.Intn(3) == 0 || whole[1] != ']' || m.rarely() { // one that grows may have nothing yet
			if !ok {
				array = m.value(whole, size)
			}
			list = append(list, func() string { return array + "[" + m.index(array) + "]" })
			if whole[1] == ']' {
				list = append(list, func() string { return "pop(" + array + ")" })
			}
		}
	}
	if len(list) == 0 {
		return ""
	}
	return list[m.Intn(len(list))]()
}

func (m *author) whole(typ string, size int) string {
	v := func() string { return m.value(typ, size-1) }
	if size <= 0 {
		suffix := typ
		if typ == "i64" && m.Intn(2) == 0 {
			suffix = ""
		}
		return m.one("0", "1", "2", "3", "7", "127", "128", "255") + suffix
	}
	switch m.Intn(7) {
	case 0:
		return m.one("-", "~") + v()
	case 1, 2:
		return "(" + v() + " " + m.one("+", "-", "*", "&", "|", "^", "<<", ">>") + " " + v() + ")"
	case 3:
		by := v()
		if !m.rarely() {
			by = "(" + by + " | 1" + typ + ")"
		}
		return "(" + v() + " " + m.one("/", "%") + " " + by + ")"
	case 4:
		return typ + "(" + m.value(m.number(), size-1) + ")"
	case 5:
		if typ == "i64" {
			return "len(" + m.value(m.one("bytes", "[]i64", "[3]i8", "[2][]bool", "[]P"), size-1) + ")"
		}
		if s, ok := m.ofType("bytes"); ok && typ == "i32" {
			return "(" + s + " + \"x\")[" + m.index(s) + "]"
		}
	}
	return m.whole(typ, 0)
}

func (m *author) truth(size int) string {
	if size <= 0 {
		return m.one("true", "false")
	}
	typ := m.number()
	v := func() string { return m.value("bool", size-1) }
	switch m.Intn(5) {
	case 0:
		return "!" + v()
	case 1:
		return "(" + m.value(typ, size-1) + " " + m.one("==", "!=", "<", "<=", ">", ">=") + " " + m.value(typ, size-1) + ")"
	case 2:
		typ = m.one("bool", "bytes")
		return "(" + m.value(typ, size-1) + " " + m.one("==", "!=") + " " + m.value(typ, size-1) + ")"
	case 3:
		return "(" + v() + " " + m.one("&&", "||") + " " + v() + ")"
	}
	return m.truth(0)
}

func (m *author) text(size int) string {
	if size <= 0 {
		return m.one("\"\"", "\"a\"", "\"\\x00\\\\\"", "\"abcdefghi\"")
	}
	v := func() string { return m.value("bytes", size-1) }
	switch m.Intn(4) {
	case 0:
		return "(" + v() + " + " + v() + ")"
	case 1:
		if s, ok := m.ofType("bytes"); ok && !m.rarely() {
			half, whole := "len("+s+") / 2", "len("+s+")"
			return "cut(" + s + ", " + m.one("0, "+half, half+", "+whole, half+", "+half, "0, "+whole, whole+", "+whole) + ")"
		}
		return "cut(" + v() + ", " + m.value("i64", size-1) + ", " + m.value("i64", size-1) + ")"
	case 2:
		n := m.value("i32", size-1)
		if !m.rarely() {
			n += " & 255i32"
		}
		return "byte(" + n + ")"
	}
	return m.text(0)
}

// thing makes a new record or array.
func (m *author) thing(typ string, size int) string {
	if strings.HasPrefix(typ, "[]") {
		return "new " + typ + "()"
	}
	var parts []string
	for _, f := range worldFields[typ] {
		parts = append(parts, m.value(f.typ, size-1))
	}
	if typ[0] == '[' {
		parts = []string{m.value(typ[strings.Index(typ, "]")+1:], size-1)}
	}
	return "new " + typ + "(" + strings.Join(parts, ", ") + ")"
}

// args makes arguments of parameters that are ints and bools.
func (m *author) args(params []int) []int64 {
	list := make([]int64, len(params))
	for i, typ := range params {
		ends := map[int][]int64{
			api.I8:   {-1 << 7, 1<<7 - 1, 0, 1, -1, 2, 3, 7},
			api.I32:  {-1 << 31, 1<<31 - 1, 0, 1, -1, 2, 3, 7},
			api.I64:  {-1 << 63, 1<<63 - 1, 0, 1, -1, 2, 3, 7},
			api.Bool: {0, 1},
		}[typ]
		list[i] = ends[m.Intn(len(ends))]
	}
	return list
}
