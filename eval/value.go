package eval

import (
	"trammel/api"
	"trammel/kinds"
	"trammel/word"
)

// value tells the word of a value whose parts have these words, and the trap that comes instead.
func (m *machine) value(n *node, parts ...uint64) (uint64, int) {
	switch n.Op {
	case api.XInt:
		return uint64(n.N), api.TrapNone
	case api.XText:
		return m.constant(n), api.TrapNone
	case api.XTrue, api.XFalse:
		return bit(n.Op == api.XTrue), api.TrapNone
	case api.XName:
		return *m.slot(n.N), api.TrapNone
	case api.XNew:
		return m.create(n.Type, parts...)
	case api.XField:
		return m.Get(parts[0], n.N)
	case api.XAt:
		return m.element(parts[0], int64(parts[1]))
	case api.XLen:
		count, _ := m.Len(parts[0])
		return uint64(count), api.TrapNone
	case api.XPop:
		return m.Drop(parts[0])
	case api.XCut:
		return m.cut(parts[0], int64(parts[1]), int64(parts[2]))
	case api.XByte:
		return m.letter(int64(parts[0]))
	case api.XAdd:
		if n.Type == api.Text {
			return m.join(parts[0], parts[1])
		}
	case api.XEq, api.XNe, api.XLt, api.XLe, api.XGt, api.XGe:
		return bit(m.holds(n, parts[0], parts[1])), api.TrapNone
	}
	return number(n, parts...)
}

// constant tells the reference of an XText. It is made once, however often the term is begun: it costs nothing, nobody is told a
// reference, and a loop would fill the memory with one text.
func (m *machine) constant(n *node) uint64 {
	if n.text == 0 {
		n.text = m.Const(n.Text)
	}
	return n.text
}

// create makes a record or an array of a type.
func (m *machine) create(typ int, parts ...uint64) (uint64, int) {
	t, _ := kinds.Get(m.types, typ)
	switch t.Kind {
	case api.Record:
		return m.Record(typ, parts)
	case api.Fixed:
		return m.Fill(typ, t.Len, parts[0])
	}
	return m.Empty(typ)
}

// element tells an element of an array, or the number of a byte of a text.
func (m *machine) element(ref uint64, at int64) (uint64, int) {
	text, ok := m.Bytes(ref)
	if !ok {
		return m.Get(ref, at)
	}
	if at < 0 || at >= int64(len(text)) {
		return 0, api.TrapIndex
	}
	return uint64(text[at]), api.TrapNone
}

// cut makes a text of a part of one.
func (m *machine) cut(ref uint64, from, to int64) (uint64, int) {
	text, _ := m.Bytes(ref)
	if from < 0 || from > to || to > int64(len(text)) {
		return 0, api.TrapIndex
	}
	return m.Text(text[from:to])
}

// letter makes a text of the byte of a number.
func (m *machine) letter(n int64) (uint64, int) {
	if n < 0 || n > 255 {
		return 0, api.TrapByte
	}
	return m.Text(string([]byte{byte(n)}))
}

// join makes a text of two. How long it would be is asked ahead, since a program's own texts may be as long as they like.
func (m *machine) join(a, b uint64) (uint64, int) {
	front, _ := m.Bytes(a)
	back, _ := m.Bytes(b)
	if len(front)+len(back) > api.MaxText {
		return 0, api.TrapSize
	}
	return m.Text(front + back)
}

// holds: does the comparison of two words hold?
func (m *machine) holds(n *node, a, b uint64) bool {
	op := n.Op - api.XEq + api.OpEq
	switch typ := n.Kids[0].Type; typ {
	case api.Text:
		front, _ := m.Bytes(a)
		back, _ := m.Bytes(b)
		return (front == back) == (op == api.OpEq)
	case api.Bool:
		return (a == b) == (op == api.OpEq)
	default:
		return word.Test(op, uint8(typ), int64(a), int64(b))
	}
}

// number tells the word of a value that is made of numbers alone.
func number(n *node, parts ...uint64) (uint64, int) {
	a, width := int64(parts[0]), uint8(n.Type)
	switch n.Op {
	case api.XConv:
		return uint64(word.Wrap(width, a)), api.TrapNone
	case api.XNeg:
		return uint64(word.One(api.OpNeg, width, a)), api.TrapNone
	case api.XNot:
		return uint64(word.One(api.OpNot, width, a)), api.TrapNone
	case api.XFlip:
		return 1 - parts[0], api.TrapNone
	}
	both, trap := word.Two(n.Op-api.XAdd+api.OpAdd, width, a, int64(parts[1]))
	return uint64(both), trap
}

func bit(b bool) uint64 {
	if b {
		return 1
	}
	return 0
}
