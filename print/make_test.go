package print

import (
	"math"
	"math/rand"
	"strings"

	"trammel/api"
	"trammel/lex"
)

func node(kind uint8, kids ...api.Node) api.Node { return api.Node{Kind: kind, Kids: kids} }

func named(kind uint8, text string, kids ...api.Node) api.Node {
	return api.Node{Kind: kind, Text: text, Kids: kids}
}

func whole(n uint64, suffix string) api.Node { return api.Node{Kind: api.XInt, N: n, Text: suffix} }

// nested puts a node into so many of a kind, each as the last Kid behind those that stand ahead.
func nested(times int, innermost api.Node, kind uint8, ahead ...api.Node) api.Node {
	for range times {
		innermost = node(kind, append(ahead[:len(ahead):len(ahead)], innermost)...)
	}
	return innermost
}

// maker makes trees that may be, at will; size is how deep they may still become.
type maker struct{ *rand.Rand }

func newMaker(seed int64) maker { return maker{rand.New(rand.NewSource(seed))} }

func (m maker) some(most int, part func() api.Node) []api.Node {
	var list []api.Node
	for range m.Intn(most + 1) {
		list = append(list, part())
	}
	return list
}

func (m maker) one(texts ...string) string { return texts[m.Intn(len(texts))] }

func (m maker) name() string { return m.one("a", "b", "x1", "_", "Ab_9", "iff", "i16", "If") }

func (m maker) label() string { return m.one("", "L", "a") }

func (m maker) program() api.Node {
	return node(api.NProgram, m.some(4, func() api.Node {
		if m.Intn(3) == 0 {
			return named(api.NRecord, m.name(), m.some(3, m.field)...)
		}
		types := node(api.NTypes, m.some(3, func() api.Node { return m.typeOf(2) })...)
		return named(api.NFunc, m.name(), node(api.NParams, m.some(3, m.field)...), types, m.block(3))
	})...)
}

func (m maker) field() api.Node { return named(api.NField, m.name(), m.typeOf(2)) }

func (m maker) typeOf(size int) api.Node {
	switch k := m.Intn(6); {
	case k < 2 && size > 0:
		return api.Node{Kind: api.NFixed, N: m.number(64), Kids: []api.Node{m.typeOf(size - 1)}}
	case k < 4 && size > 0:
		return node(api.NGrow, m.typeOf(size-1))
	}
	return named(api.NNamed, m.one("i8", "i32", "i64", "bool", "bytes", "P", "i16"))
}

// number makes a number of at most so many bits, often one at an edge.
func (m maker) number(bits int) uint64 {
	most := uint64(math.MaxUint64) >> (64 - bits)
	return []uint64{0, 1, 7, most, m.Uint64() & most}[m.Intn(5)]
}

func (m maker) int() api.Node {
	switch m.Intn(6) {
	case 0:
		return whole(m.number(8), "i8")
	case 1:
		return whole(m.number(32), "i32")
	case 2:
		return whole(m.number(64), "i64")
	}
	return whole(m.number(64), "")
}

func (m maker) block(size int) api.Node {
	return node(api.NBlock, m.some(3, func() api.Node { return m.stmt(size) })...)
}

func (m maker) value() api.Node { return m.expr(3) }

func (m maker) stmt(size int) api.Node {
	if size == 0 {
		return []api.Node{node(api.NBlock), named(api.NBreak, m.label()), named(api.NContinue, m.label()), node(api.NReturn), {Kind: api.NTrap, N: m.number(8)}}[m.Intn(5)]
	}
	switch m.Intn(11) {
	case 0:
		return m.block(size - 1)
	case 1, 2:
		return m.simple(true)
	case 3:
		return m.simple(false)
	case 4, 5:
		return m.branch(size - 1)
	case 6:
		return named(api.NWhile, m.label(), m.value(), m.block(size-1))
	case 7:
		kids := []api.Node{m.simple(true), m.value(), m.simple(false), m.block(size - 1)}
		for i := range 3 {
			if m.Intn(2) == 0 {
				kids[i] = node(api.NNone)
			}
		}
		return named(api.NFor, m.label(), kids...)
	case 8:
		return m.choice(size - 1)
	case 9:
		return node(api.NReturn, m.some(3, m.value)...)
	}
	return m.stmt(0)
}

func (m maker) branch(size int) api.Node {
	n := node(api.NIf, m.expr(2), m.block(size))
	switch m.Intn(3) {
	case 0:
		n.Kids = append(n.Kids, m.block(size))
	case 1:
		n.Kids = append(n.Kids, m.branch(size))
	}
	return n
}

func (m maker) choice(size int) api.Node {
	n := named(api.NSwitch, m.label(), m.expr(2))
	for range m.Intn(4) {
		c := node(api.NCase, m.constant())
		c.Kids = append(c.Kids, m.some(2, m.constant)...)
		c.Kids = append(c.Kids, m.block(size))
		n.Kids = append(n.Kids, c)
	}
	if m.Intn(2) == 0 {
		n.Kids = append(n.Kids, node(api.NDefault, m.block(size)))
	}
	return n
}

func (m maker) constant() api.Node {
	if m.Intn(2) == 0 {
		return node(api.XNeg, m.int())
	}
	return m.int()
}

// names makes one name or several, of a kind.
func (m maker) names(kind uint8) []api.Node {
	return append(m.some(2, func() api.Node { return named(kind, m.name()) }), named(kind, m.name()))
}

func (m maker) simple(orVar bool) api.Node {
	k := m.Intn(6)
	switch {
	case k == 0 && orVar:
		return node(api.NVar, append(m.names(api.NWord), m.value())...)
	case k < 2:
		return node(api.NSet, append(m.names(api.XName), m.value())...)
	case k < 4:
		n := []api.Node{named(api.XName, m.name()), m.call(2)}[m.Intn(2)]
		for range 1 + m.Intn(3) {
			n = m.tail(n, 2)
		}
		return node(api.NSet, n, m.value())
	case k < 5:
		return node(api.NDo, m.call(3))
	}
	return node(api.NDo, node(api.XPush, m.expr(2), m.expr(2)))
}

func (m maker) tail(n api.Node, size int) api.Node {
	if m.Intn(2) == 0 {
		return named(api.XField, m.name(), n)
	}
	return node(api.XAt, n, m.expr(size))
}

func (m maker) call(size int) api.Node {
	return named(api.XCall, m.name(), m.some(3, func() api.Node { return m.expr(size - 1) })...)
}

func (m maker) expr(size int) api.Node {
	if size <= 0 {
		return []api.Node{m.int(), named(api.XText, m.one("", "//", "a\n\"\x00\xff", "()")), node(api.XTrue), node(api.XFalse), named(api.XName, m.name()), named(api.XCall, m.name())}[m.Intn(6)]
	}
	part := func() api.Node { return m.expr(size - 1) }
	switch m.Intn(12) {
	case 0:
		return m.call(size)
	case 1:
		return named(api.XConv, m.one("i8", "i32", "i64"), part())
	case 2:
		return node(api.XNew, append([]api.Node{m.typeOf(2)}, m.some(3, part)...)...)
	case 3:
		return m.tail(part(), size-1)
	case 4:
		return node([]uint8{api.XLen, api.XByte, api.XPop}[m.Intn(3)], part())
	case 5:
		return node(api.XCut, part(), part(), part())
	case 6, 7:
		return node([]uint8{api.XNeg, api.XNot, api.XFlip}[m.Intn(3)], part())
	case 8:
		return m.expr(0)
	}
	return node(api.XAdd+uint8(m.Intn(int(api.XEither-api.XAdd)+1)), part(), part())
}

// jumbled tells a source with other blanks between its tokens, and noughts ahead of some of its numbers.
func (m maker) jumbled(s string) string {
	var out strings.Builder
	for i, x := range lex.Each(s) {
		if i > 0 {
			out.WriteString(m.one(" ", "\n", "\t\t", " // ) }\n", "\r\n"))
		}
		if x.Kind == api.TokNumber {
			out.WriteString(m.one("", "0", "000"))
		}
		out.WriteString(s[x.At:x.End])
	}
	return out.String()
}
