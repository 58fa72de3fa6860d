package parse

import (
	"math/rand"
	"strconv"
	"strings"

	"trammel/api"
	"trammel/lex"
)

// writer writes a tree as a source, and sets the places of its nodes to where their tokens came to stand: a second reading of
// what the chapter says of trees and places. Given a rand, it puts blanks, remarks and needless parentheses at will.
type writer struct {
	strings.Builder
	*rand.Rand
}

// source writes a tree, of whatever role; the places of its nodes are set. A tree that is none may make it panic.
func source(n *api.Node, with *rand.Rand) string {
	w := &writer{Rand: with}
	w.node(n)
	w.blank()
	return w.String()
}

// put writes a token, with a blank ahead where one is needed, and tells its place.
func (w *writer) put(token string) int {
	if w.Len() > 0 && w.joins(w.String()[w.Len()-1], token[0]) {
		w.WriteByte(" \n\t\r"[w.below(4)])
	}
	w.blank()
	at := w.Len()
	w.WriteString(token)
	return at
}

func (w *writer) blank() {
	for w.below(4) == 1 {
		w.WriteString([]string{" ", "\n", "\t", "\r", "  ", " // ) } \"\n", " //\n"}[w.below(7)])
	}
}

// joins: could these two bytes be read as parts of one token, or of a remark? (Signs: those alone that no token is made of stay apart.)
func (w *writer) joins(a, b byte) bool {
	const alone = "(){}[],;:.\""
	return !strings.ContainsRune(alone, rune(a)) && !strings.ContainsRune(alone, rune(b))
}

func (w *writer) below(n int) int {
	if w.Rand == nil {
		return 0
	}
	return w.Intn(n)
}

func (w *writer) all(between string, list []api.Node) {
	for i := range list {
		if i > 0 && between != "" {
			w.put(between)
		}
		w.node(&list[i])
	}
}

func (w *writer) enclosed(list []api.Node) int {
	at := w.put("(")
	w.all(",", list)
	w.put(")")
	return at
}

func (w *writer) braced(list []api.Node) int {
	at := w.put("{")
	w.all("", list)
	w.put("}")
	return at
}

func (w *writer) node(n *api.Node) {
	if n.Kind >= api.XInt {
		w.expr(n, 0)
		return
	}
	switch n.Kind {
	case api.NProgram:
		w.all("", n.Kids)
		n.At = 0
	case api.NRecord:
		w.put("record")
		n.At = w.put(n.Text)
		w.put("{")
		for i := range n.Kids {
			w.node(&n.Kids[i])
			w.put(";")
		}
		w.put("}")
	case api.NField:
		n.At = w.put(n.Text)
		w.node(&n.Kids[0])
	case api.NFunc:
		w.put("fn")
		n.At = w.put(n.Text)
		n.Kids[0].At = w.enclosed(n.Kids[0].Kids)
		w.results(&n.Kids[1])
		if list := &n.Kids[1]; len(list.Kids) == 0 {
			w.node(&n.Kids[2])
			list.At = n.Kids[2].At
			return
		}
		w.node(&n.Kids[2])
	case api.NNamed, api.NWord:
		n.At = w.put(n.Text)
	case api.NFixed:
		n.At = w.put("[")
		w.put(strconv.FormatUint(n.N, 10))
		w.put("]")
		w.node(&n.Kids[0])
	case api.NGrow:
		n.At = w.put("[")
		w.put("]")
		w.node(&n.Kids[0])
	default:
		w.stmt(n)
	}
}

func (w *writer) results(n *api.Node) {
	switch {
	case len(n.Kids) == 0:
	case len(n.Kids) > 1 || w.below(2) == 1:
		n.At = w.enclosed(n.Kids)
	default:
		w.node(&n.Kids[0])
		n.At = n.Kids[0].At
	}
}

func (w *writer) stmt(n *api.Node) {
	if n.Text != "" && (n.Kind == api.NWhile || n.Kind == api.NFor || n.Kind == api.NSwitch) {
		w.put(n.Text)
		w.put(":")
	}
	switch n.Kind {
	case api.NBlock:
		n.At = w.braced(n.Kids)
	case api.NVar, api.NSet, api.NDo:
		w.simple(n)
		w.put(";")
	case api.NIf:
		n.At = w.put("if")
		w.node(&n.Kids[0])
		w.node(&n.Kids[1])
		if len(n.Kids) == 3 {
			w.put("else")
			w.node(&n.Kids[2])
		}
	case api.NWhile:
		n.At = w.put("while")
		w.node(&n.Kids[0])
		w.node(&n.Kids[1])
	case api.NFor:
		w.rounds(n)
	case api.NSwitch:
		n.At = w.put("switch")
		w.node(&n.Kids[0])
		w.put("{")
		w.all("", n.Kids[1:])
		w.put("}")
	case api.NCase, api.NDefault:
		w.arm(n)
	case api.NBreak, api.NContinue:
		n.At = w.put(map[uint8]string{api.NBreak: "break", api.NContinue: "continue"}[n.Kind])
		if n.Text != "" {
			w.put(n.Text)
		}
		w.put(";")
	case api.NReturn:
		n.At = w.put("return")
		w.all(",", n.Kids)
		w.put(";")
	case api.NTrap:
		n.At = w.put("trap")
		w.put(strconv.FormatUint(n.N, 10))
		w.put(";")
	default:
		w.put("$") // no text has it
	}
}

func (w *writer) arm(n *api.Node) {
	last := len(n.Kids) - 1
	if n.Kind == api.NCase {
		n.At = w.put("case")
		for i := range n.Kids[:last] {
			if i > 0 {
				w.put(",")
			}
			w.constant(&n.Kids[i])
		}
	} else {
		n.At = w.put("default")
	}
	n.Kids[last].At = w.put(":")
	w.all("", n.Kids[last].Kids)
}

func (w *writer) constant(n *api.Node) {
	if n.Kind == api.XNeg {
		n.At = w.put("-")
		n = &n.Kids[0]
	}
	n.At = w.put(strconv.FormatUint(n.N, 10) + n.Text)
}

func (w *writer) simple(n *api.Node) {
	last := len(n.Kids) - 1
	switch n.Kind {
	case api.NVar:
		n.At = w.put("var")
		w.all(",", n.Kids[:last])
		w.put("=")
		w.node(&n.Kids[last])
	case api.NSet:
		for i := range n.Kids[:last] {
			if i > 0 {
				w.put(",")
			}
			w.target(&n.Kids[i])
		}
		n.At = w.put("=")
		w.node(&n.Kids[last])
	case api.NDo:
		w.bare(&n.Kids[0])
		n.At = n.Kids[0].At
	default:
		w.put("$")
	}
}

// target writes what is put to: no part of it stands in parentheses, but for what is between brackets.
func (w *writer) target(n *api.Node) {
	switch n.Kind {
	case api.XField, api.XAt:
		w.target(&n.Kids[0])
		w.tail(n)
	default:
		w.bare(n)
	}
}

func (w *writer) tail(n *api.Node) {
	if n.Kind == api.XField {
		w.put(".")
		n.At = w.put(n.Text)
		return
	}
	n.At = w.put("[")
	w.node(&n.Kids[1])
	w.put("]")
}

func (w *writer) rounds(n *api.Node) {
	n.At = w.put("for")
	for i := range n.Kids[:3] {
		k := &n.Kids[i]
		switch {
		case k.Kind == api.NNone:
		case i == 1:
			w.node(k)
		default:
			w.simple(k)
		}
		if i < 2 {
			at := w.put(";")
			if k.Kind == api.NNone {
				k.At = at
			}
		}
	}
	w.node(&n.Kids[3])
	if n.Kids[2].Kind == api.NNone {
		n.Kids[2].At = n.Kids[3].At
	}
}

// How tight a line of the grammar binds: the further down, the tighter.
const (
	tightEither = 1 + iota
	tightBoth
	tightRel
	tightSum
	tightProduct
	tightUnary
	tightTail
)

var betweenSigns = map[uint8]struct {
	sign  string
	tight int
}{
	api.XEither: {"||", tightEither}, api.XBoth: {"&&", tightBoth},
	api.XEq: {"==", tightRel}, api.XNe: {"!=", tightRel}, api.XLt: {"<", tightRel}, api.XLe: {"<=", tightRel}, api.XGt: {">", tightRel}, api.XGe: {">=", tightRel},
	api.XAdd: {"+", tightSum}, api.XSub: {"-", tightSum}, api.XOr: {"|", tightSum}, api.XXor: {"^", tightSum},
	api.XMul: {"*", tightProduct}, api.XDiv: {"/", tightProduct}, api.XRem: {"%", tightProduct}, api.XAnd: {"&", tightProduct}, api.XShl: {"<<", tightProduct}, api.XShr: {">>", tightProduct},
}

func (w *writer) expr(n *api.Node, tight int) {
	own := tightTail
	if b, ok := betweenSigns[n.Kind]; ok {
		own = b.tight
	} else if n.Kind == api.XNeg || n.Kind == api.XNot || n.Kind == api.XFlip {
		own = tightUnary
	}
	if own < tight || w.below(12) == 1 {
		w.put("(")
		w.expr(n, 0)
		w.put(")")
		return
	}
	if b, ok := betweenSigns[n.Kind]; ok {
		left := own
		if own == tightRel {
			left++
		}
		w.expr(&n.Kids[0], left)
		n.At = w.put(b.sign)
		w.expr(&n.Kids[1], own+1)
		return
	}
	w.bare(n)
}

// bare writes an expr that begins with its own token, or has tails; no parentheses stand around it.
func (w *writer) bare(n *api.Node) {
	words := map[uint8]string{api.XTrue: "true", api.XFalse: "false", api.XLen: "len", api.XCut: "cut", api.XByte: "byte", api.XPop: "pop", api.XPush: "push", api.XNeg: "-", api.XNot: "~", api.XFlip: "!"}
	switch n.Kind {
	case api.XInt:
		n.At = w.put(strings.Repeat("0", w.below(2)) + strconv.FormatUint(n.N, 10) + n.Text)
	case api.XText:
		n.At = w.put(lex.Quote(n.Text))
	case api.XTrue, api.XFalse:
		n.At = w.put(words[n.Kind])
	case api.XName:
		n.At = w.put(n.Text)
	case api.XCall, api.XConv:
		n.At = w.put(n.Text)
		w.enclosed(n.Kids)
	case api.XNew:
		n.At = w.put("new")
		w.node(&n.Kids[0])
		w.enclosed(n.Kids[1:])
	case api.XField, api.XAt:
		w.expr(&n.Kids[0], tightTail)
		w.tail(n)
	case api.XLen, api.XCut, api.XByte, api.XPop, api.XPush:
		n.At = w.put(words[n.Kind])
		w.enclosed(n.Kids)
	case api.XNeg, api.XNot, api.XFlip:
		n.At = w.put(words[n.Kind])
		w.expr(&n.Kids[0], tightUnary)
	default:
		w.put("$")
	}
}
