package check

import (
	"fmt"
	"math/rand"
	"slices"
	"strings"
)

// author makes sources of programs at will. They are right, but for slips: of the choices made one in that many is wrong; none,
// if it is 0.
type author struct {
	*rand.Rand
	slips  int
	funcs  []sign
	locals []local
	blocks []int // how many locals there were when each open block began
	turns  []turn
	gives  []string // the results of the function that is written
}

// sign is what a function is called by, given and gives.
type sign struct {
	name            string
	params, results []string
}

type local struct{ name, typ string }

type turn struct {
	label string
	loop  bool
}

// worldTypes are the types that the sources have; their records are written by records.
var worldTypes = []string{"i8", "i32", "i64", "bool", "bytes", "P", "Q", "E", "[]i64", "[3]i8", "[]P", "[2][]bool", "[]bool", "[1]Q"}

// worldFields are the records' fields.
var worldFields = map[string][]local{
	"P": {{"x", "i64"}, {"y", "bool"}, {"p", "P"}, {"l", "[]P"}},
	"Q": {{"x", "i8"}, {"t", "bytes"}, {"n", "i32"}, {"g", "[2][]bool"}},
	"E": nil,
}

func newAuthor(seed int64, slips int) *author {
	return &author{Rand: rand.New(rand.NewSource(seed)), slips: slips}
}

func (m *author) one(texts ...string) string { return texts[m.Intn(len(texts))] }

func (m *author) slip() bool { return m.slips > 0 && m.Intn(m.slips) == 0 }

func (m *author) typ() string { return m.one(worldTypes...) }

func (m *author) number() string { return m.one("i8", "i32", "i64") }

// list makes so many texts at most, with a comma between.
func (m *author) list(most int, part func() string) string {
	var texts []string
	for range m.Intn(most + 1) {
		texts = append(texts, part())
	}
	return strings.Join(texts, ", ")
}

func (m *author) program() string {
	m.funcs = nil
	for i := range 1 + m.Intn(4) {
		f := sign{name: fmt.Sprint("f", i)}
		if i > 0 && m.slip() {
			f.name = "f0"
		}
		for range m.Intn(4) {
			f.params = append(f.params, m.typ())
		}
		for range m.Intn(4) {
			f.results = append(f.results, m.typ())
		}
		m.funcs = append(m.funcs, f)
	}
	var items []string
	for _, name := range []string{"P", "Q", "E"} {
		items = append(items, record(name))
	}
	for _, f := range m.funcs {
		items = append(items, m.function(f))
	}
	if m.slip() {
		items = append(items, m.one(record("P"), "fn g(a [0]i8) { }", "fn g(a T) { }", "record R { a i8; a i8; }"))
	}
	m.Shuffle(len(items), func(i, j int) { items[i], items[j] = items[j], items[i] })
	return strings.Join(items, "\n")
}

func record(name string) string {
	s := "record " + name + " {"
	for _, f := range worldFields[name] {
		s += " " + f.name + " " + f.typ + ";"
	}
	return s + " }"
}

func (m *author) function(f sign) string {
	m.locals, m.blocks, m.turns, m.gives = nil, nil, nil, f.results
	var params []string
	for i, typ := range f.params {
		name := string(rune('a' + i))
		if i > 0 && m.slip() {
			name = "a"
		}
		params = append(params, name+" "+typ)
		m.locals = append(m.locals, local{name, typ})
	}
	results := "(" + strings.Join(f.results, ", ") + ")"
	if len(f.results) == 0 {
		results = ""
	}
	return "fn " + f.name + "(" + strings.Join(params, ", ") + ") " + results + " " + m.block(4)
}

// open makes what stands in a block, whose locals end with it.
func (m *author) open(part func() string) string {
	ahead := len(m.locals)
	m.blocks = append(m.blocks, ahead)
	s := part()
	m.blocks = m.blocks[:len(m.blocks)-1]
	m.locals = m.locals[:ahead]
	return s
}

func (m *author) stmts(size int) string {
	var texts []string
	for range m.Intn(5) {
		texts = append(texts, m.stmt(size))
	}
	return strings.Join(texts, " ")
}

func (m *author) block(size int) string {
	return "{ " + m.open(func() string { return m.stmts(size - 1) }) + " }"
}

// fresh makes a name that the innermost block does not have.
func (m *author) fresh() string {
	first := m.blocks[len(m.blocks)-1]
	for {
		name := m.one("a", "b", "c", "d", "e", "g", "h", "k", "f0", "P2", "x", "i", "j") + m.one("", "", "1", "2", "_")
		same := func(l local) bool { return l.name == name }
		if m.slip() || !slices.ContainsFunc(m.locals[first:], same) {
			return name
		}
	}
}

// visible tells the locals that a name can mean.
func (m *author) visible() []local {
	var list []local
	for i, l := range m.locals {
		hidden := func(k local) bool { return k.name == l.name }
		if !slices.ContainsFunc(m.locals[i+1:], hidden) {
			list = append(list, l)
		}
	}
	return list
}

// ofType makes a local's name of a type; false, if there is none.
func (m *author) ofType(typ string) (string, bool) {
	list := slices.DeleteFunc(m.visible(), func(l local) bool { return l.typ != typ })
	if len(list) == 0 {
		return "", false
	}
	return list[m.Intn(len(list))].name, true
}

func (m *author) stmt(size int) string {
	if size <= 0 {
		return m.leaf()
	}
	switch m.Intn(9) {
	case 0:
		return m.block(size)
	case 1, 2:
		if m.Intn(2) == 0 {
			return m.variables() + ";"
		}
		return m.variable() + ";"
	case 3:
		s := "if " + m.test() + " " + m.block(size)
		for m.Intn(3) == 0 {
			s += " else if " + m.test() + " " + m.block(size)
		}
		if m.Intn(2) == 0 {
			s += " else " + m.block(size)
		}
		return s
	case 4:
		return m.turn(true, func() string { return "while " + m.test() + " " + m.block(size) })
	case 5:
		return m.open(func() string { return m.forLoop(size) })
	case 6:
		value := m.number()
		if m.slip() {
			value = m.typ()
		}
		head := "switch " + m.value(value, 2)
		return m.turn(false, func() string { return head + " { " + m.arms(value, size) + " }" })
	}
	return m.leaf()
}

func (m *author) leaf() string {
	switch m.Intn(8) {
	case 0:
		return m.leap()
	case 1:
		return "trap " + m.one("0", "7", "255") + ";"
	case 2:
		var list []string
		for _, typ := range m.gives {
			list = append(list, m.value(typ, 2))
		}
		if m.slip() {
			list = append(list, m.value(m.typ(), 1))
		}
		return "return " + strings.Join(list, ", ") + ";"
	case 3:
		return m.variable() + ";"
	}
	return m.simple() + ";"
}

func (m *author) test() string {
	if m.slip() {
		return m.value(m.typ(), 1)
	}
	return m.value("bool", 3)
}

// turn makes a loop or switch, perhaps with a label; within it the label is had.
func (m *author) turn(loop bool, part func() string) string {
	label := ""
	if m.Intn(2) == 0 {
		label = fmt.Sprint("L", len(m.turns))
	}
	if label != "" && m.slip() {
		label = "L0"
	}
	m.turns = append(m.turns, turn{label, loop})
	s := part()
	m.turns = m.turns[:len(m.turns)-1]
	if label == "" {
		return s
	}
	return label + ": " + s
}

func (m *author) leap() string {
	word := m.one("break", "continue")
	if m.slip() {
		return word + m.one("", " L0", " L1", " L9") + ";"
	}
	var list []string
	for _, t := range m.turns {
		if word == "break" || t.loop {
			list = append(list, "")
			if t.label != "" {
				list = append(list, " "+t.label)
			}
		}
	}
	if len(list) == 0 {
		return "{ }"
	}
	return word + m.one(list...) + ";"
}

func (m *author) forLoop(size int) string {
	first := ""
	switch m.Intn(4) {
	case 0:
		first = m.variable()
	case 1:
		first = m.variables()
	case 2:
		first = m.simple()
	}
	return m.turn(true, func() string {
		test, third := "", ""
		if m.Intn(3) > 0 {
			test = m.test()
		}
		if m.Intn(3) > 0 {
			third = m.simple()
		}
		return "for " + first + "; " + test + "; " + third + " " + m.block(size)
	})
}

func (m *author) arms(typ string, size int) string {
	s := ""
	next := m.Intn(100)
	constant := func() string {
		next++
		text := fmt.Sprint(m.one("", "-"), next)
		if m.slip() {
			text = m.one("1", "-1", "255", "0", "-0", "4294967295", "4294967296", "18446744073709551615", "256", "-256", "300")
		}
		if m.Intn(4) == 0 && len(text) < 5 && !slices.Contains([]string{"256", "-256", "300"}, text) && strings.HasPrefix(typ, "i") {
			text += typ
		}
		if m.slip() {
			text = m.one("1", "-1", "2") + m.number()
		}
		return text
	}
	for range m.Intn(4) {
		numbers := constant()
		for range m.Intn(3) {
			numbers += ", " + constant()
		}
		s += "case " + numbers + ": " + m.open(func() string { return m.stmts(size - 1) }) + " "
	}
	if m.Intn(2) == 0 {
		s += "default: " + m.open(func() string { return m.stmts(size - 1) })
	}
	return s
}

func (m *author) variable() string {
	typ := m.typ()
	s := m.value(typ, 3)
	name := m.fresh()
	return "var " + m.declared(name, typ) + " = " + s
}

// declared makes a local of a name.
func (m *author) declared(name, typ string) string {
	m.locals = append(m.locals, local{name, typ})
	return name
}

// callOf makes a call of a function with so many results at least; and these.
func (m *author) callOf(least int) (string, []string) {
	list := slices.Clone(m.funcs)
	list = slices.DeleteFunc(list, func(f sign) bool { return len(f.results) < least })
	if len(list) == 0 {
		return "", nil
	}
	f := list[m.Intn(len(list))]
	return m.call(f, 2), f.results
}

func (m *author) variables() string {
	call, types := m.callOf(2)
	if call == "" {
		return m.variable()
	}
	if m.slip() {
		call = m.value(m.typ(), 1)
	}
	if m.slip() {
		types = append(slices.Clone(types), "i8")
	}
	var names []string
	for _, typ := range types {
		names = append(names, m.declared(m.fresh(), typ))
	}
	return "var " + strings.Join(names, ", ") + " = " + call
}

// simple makes what may stand as a third part of a for.
func (m *author) simple() string {
	switch m.Intn(6) {
	case 0:
		if s := m.setSeveral(); s != "" {
			return s
		}
	case 1:
		elem := m.one("i64", "P", "bool")
		array := "[]" + elem
		if m.slip() {
			array = m.typ()
		}
		return "push(" + m.value(array, 2) + ", " + m.value(elem, 2) + ")"
	case 2, 3:
		if call, _ := m.callOf(0); call != "" {
			return call
		}
	case 4:
		if s, typ := m.chain(); s != "" {
			return s + " = " + m.value(typ, 2)
		}
	}
	if list := m.visible(); len(list) > 0 {
		l := list[m.Intn(len(list))]
		return l.name + " = " + m.value(l.typ, 3)
	}
	return m.call(m.funcs[0], 1)
}

func (m *author) setSeveral() string {
	call, types := m.callOf(2)
	var names []string
	for _, typ := range types {
		name, ok := m.ofType(typ)
		if !ok && !m.slip() {
			return ""
		}
		if !ok {
			name = m.one("a", "b", "nothing")
		}
		names = append(names, name)
	}
	if m.slip() {
		call = m.value("i8", 1)
	}
	if len(names) < 2 {
		return ""
	}
	return strings.Join(names, ", ") + " = " + call
}

// chain makes a target that is no name, and its type.
func (m *author) chain() (string, string) {
	var s, typ string
	if list := m.visible(); len(list) > 0 && m.Intn(4) > 0 {
		l := list[m.Intn(len(list))]
		s, typ = l.name, l.typ
	} else if call, types := m.callOf(1); call != "" && len(types) == 1 {
		s, typ = call, types[0]
	} else {
		return "", ""
	}
	tails := 0
	for tails == 0 || m.Intn(2) == 0 {
		switch {
		case strings.HasPrefix(typ, "["):
			s += "[" + m.value("i64", 1) + "]"
			typ = typ[strings.Index(typ, "]")+1:]
		case len(worldFields[typ]) > 0:
			f := worldFields[typ][m.Intn(len(worldFields[typ]))]
			if m.slip() {
				f.name = "z"
			}
			s += "." + f.name
			typ = f.typ
		case typ == "bytes" && m.slips > 0 && m.Intn(9) == 0: // rarely come to, so more often a slip
			return s + "[0]", "i32"
		case m.slip():
			return s + m.one("[1]", ".x"), "i64"
		case tails == 0:
			return "", ""
		default:
			return s, typ
		}
		tails++
	}
	return s, typ
}

func (m *author) call(f sign, size int) string {
	var args []string
	for _, typ := range f.params {
		args = append(args, m.value(typ, size-1))
	}
	if m.slip() {
		args = append(args, m.value(m.typ(), 0))
	}
	name := f.name
	if m.slip() {
		name = m.one("nothing", "a")
	}
	return name + "(" + strings.Join(args, ", ") + ")"
}

// value makes an expression of a type, in brackets where it could be taken apart.
func (m *author) value(typ string, size int) string {
	if m.slip() {
		typ = m.typ()
	}
	if m.slip() {
		return m.one("nothing", "x.y", "(1 + true)", "f0()", "len(1)", "new bool()", "new i64(1)", "new Q()")
	}
	if name, ok := m.ofType(typ); ok && m.Intn(3) > 0 {
		return name
	}
	if size > 0 && m.Intn(6) == 0 {
		list := slices.DeleteFunc(slices.Clone(m.funcs), func(f sign) bool { return len(f.results) != 1 || f.results[0] != typ })
		if len(list) > 0 {
			return m.call(list[m.Intn(len(list))], size-1)
		}
	}
	if size > 0 && m.Intn(4) == 0 {
		if s := m.inside(typ, size-1); s != "" {
			return s
		}
	}
	switch typ {
	case "i8", "i32", "i64":
		return m.whole(typ, size)
	case "bool":
		return m.truth(size)
	case "bytes":
		return m.text(size)
	}
	return m.thing(typ, size)
}

// inside makes a value of a type that lies in a record or array.
func (m *author) inside(typ string, size int) string {
	var list []func() string
	for _, whole := range worldTypes {
		for _, f := range worldFields[whole] {
			if f.typ == typ {
				list = append(list, func() string { return m.value(whole, size) + "." + f.name })
			}
		}
		if strings.HasPrefix(whole, "[") && whole[strings.Index(whole, "]")+1:] == typ {
			list = append(list, func() string { return m.value(whole, size) + "[" + m.value("i64", size) + "]" })
			if whole[1] == ']' {
				list = append(list, func() string { return "pop(" + m.value(whole, size) + ")" })
			}
		}
	}
	if len(list) == 0 {
		return ""
	}
	return list[m.Intn(len(list))]()
}

func (m *author) whole(typ string, size int) string {
	v := func() string { return m.value(typ, size-1) }
	if size <= 0 {
		suffix := typ
		if typ == "i64" && m.Intn(2) == 0 {
			suffix = ""
		}
		return m.one("0", "1", "7", "127", "128", "255") + suffix
	}
	switch m.Intn(6) {
	case 0:
		return m.one("-", "~") + v()
	case 1, 2:
		return "(" + v() + " " + m.one("+", "-", "*", "/", "%", "&", "|", "^", "<<", ">>") + " " + v() + ")"
	case 3:
		return typ + "(" + m.value(m.number(), size-1) + ")"
	case 4:
		if typ == "i64" {
			return "len(" + m.value(m.one("bytes", "[]i64", "[3]i8", "[2][]bool", "[]P"), size-1) + ")"
		}
		if typ == "i32" {
			return m.value("bytes", size-1) + "[" + m.value("i64", size-1) + "]"
		}
	}
	return m.whole(typ, 0)
}

func (m *author) truth(size int) string {
	if size <= 0 {
		return m.one("true", "false")
	}
	typ := m.number()
	switch m.Intn(5) {
	case 0:
		return "!" + m.value("bool", size-1)
	case 1:
		return "(" + m.value(typ, size-1) + " " + m.one("==", "!=", "<", "<=", ">", ">=") + " " + m.value(typ, size-1) + ")"
	case 2:
		typ = m.one("bool", "bytes")
		return "(" + m.value(typ, size-1) + " " + m.one("==", "!=") + " " + m.value(typ, size-1) + ")"
	case 3:
		return "(" + m.value("bool", size-1) + " " + m.one("&&", "||") + " " + m.value("bool", size-1) + ")"
	}
	return m.truth(0)
}

func (m *author) text(size int) string {
	if size <= 0 {
		return m.one("\"\"", "\"a\"", "\"\\x00\\\\\"", "\"fn\"")
	}
	v := func() string { return m.value("bytes", size-1) }
	n := func() string { return m.value("i64", size-1) }
	switch m.Intn(4) {
	case 0:
		return "(" + v() + " + " + v() + ")"
	case 1:
		return "cut(" + v() + ", " + n() + ", " + n() + ")"
	case 2:
		return "byte(" + m.value("i32", size-1) + ")"
	}
	return m.text(0)
}

// thing makes a new record or array. A P holds another one, so it ends by a local, or by what an array has.
func (m *author) thing(typ string, size int) string {
	if strings.HasPrefix(typ, "[]") {
		return "new " + typ + "()"
	}
	if typ == "P" && size < -1 {
		return "new []P()[0]"
	}
	var parts []string
	for _, f := range worldFields[typ] {
		parts = append(parts, m.value(f.typ, size-1))
	}
	if typ[0] == '[' {
		parts = []string{m.value(typ[strings.Index(typ, "]")+1:], size-1)}
	}
	if m.slip() {
		parts = append(parts, m.value(m.typ(), 0))
	}
	return "new " + typ + "(" + strings.Join(parts, ", ") + ")"
}
