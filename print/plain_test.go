package print

import (
	"slices"
	"strconv"
	"strings"

	"trammel/api"
	"trammel/lex"
)

// form is how the chapter writes a kind of node: its line, and a text in which capitals stand for what is put there: T the Text,
// N the number, Q the Text in quotes, P and a digit the next part and the line that it wants, L all further parts, I all but the
// last one (of these two with a comma and a blank between).
type form struct {
	line int
	text string
}

// forms are the chapter's words as they stand there: a second reading, which knows nothing of the writer. (Types, names and fields
// have a line that no part goes beyond.)
var forms = map[uint8]form{
	api.XEither: {0, "P0 || P1"}, api.XBoth: {1, "P1 && P2"},
	api.XEq: {2, "P3 == P3"}, api.XNe: {2, "P3 != P3"}, api.XLt: {2, "P3 < P3"}, api.XLe: {2, "P3 <= P3"}, api.XGt: {2, "P3 > P3"}, api.XGe: {2, "P3 >= P3"},
	api.XAdd: {3, "P3 + P4"}, api.XSub: {3, "P3 - P4"}, api.XOr: {3, "P3 | P4"}, api.XXor: {3, "P3 ^ P4"},
	api.XMul: {4, "P4 * P5"}, api.XDiv: {4, "P4 / P5"}, api.XRem: {4, "P4 % P5"}, api.XAnd: {4, "P4 & P5"}, api.XShl: {4, "P4 << P5"}, api.XShr: {4, "P4 >> P5"},
	api.XNeg: {5, "-P5"}, api.XNot: {5, "~P5"}, api.XFlip: {5, "!P5"},
	api.XInt: {6, "NT"}, api.XText: {6, "Q"}, api.XTrue: {6, "true"}, api.XFalse: {6, "false"}, api.XName: {6, "T"},
	api.XCall: {6, "T(L)"}, api.XConv: {6, "T(L)"}, api.XNew: {6, "new P0(L)"}, api.XField: {6, "P6.T"}, api.XAt: {6, "P6[P0]"},
	api.XLen: {6, "len(L)"}, api.XCut: {6, "cut(L)"}, api.XByte: {6, "byte(L)"}, api.XPop: {6, "pop(L)"}, api.XPush: {6, "push(L)"},
	api.NNamed: {9, "T"}, api.NFixed: {9, "[N]P0"}, api.NGrow: {9, "[]P0"}, api.NWord: {9, "T"}, api.NField: {9, "T P0"},
	api.NVar: {9, "var I = P0"}, api.NSet: {9, "I = P0"}, api.NDo: {9, "P6"}, api.NTrap: {9, "trap N"}, api.NNone: {9, ""},
}

// plain tells texts by the forms; of a part that may stand in brackets (those of what is put to, or done, may not) it asks needless,
// if there is such, whether to put some that the chapter does not.
type plain struct{ needless func() bool }

func (p plain) text(n api.Node) string {
	var out strings.Builder
	kids, f := n.Kids, forms[n.Kind].text
	for i := 0; i < len(f); i++ {
		switch f[i] {
		case 'T':
			out.WriteString(n.Text)
		case 'N':
			out.WriteString(strconv.FormatUint(n.N, 10))
		case 'Q':
			out.WriteString(lex.Quote(n.Text))
		case 'L':
			out.WriteString(p.all(kids))
		case 'I':
			out.WriteString(p.all(kids[:len(kids)-1]))
			kids = kids[len(kids)-1:]
		case 'P':
			i++
			out.WriteString(p.part(kids[0], int(f[i]-'0')))
			kids = kids[1:]
		default:
			out.WriteByte(f[i])
		}
	}
	return out.String()
}

func (p plain) part(n api.Node, wants int) string {
	if line := forms[n.Kind].line; line < wants || line < 9 && wants < 6 && p.needless != nil && p.needless() {
		return "(" + p.text(n) + ")"
	}
	return p.text(n)
}

func (p plain) all(list []api.Node) string {
	var texts []string
	for _, n := range list {
		texts = append(texts, p.text(n))
	}
	return strings.Join(texts, ", ")
}

// program tells a program's text; of a program without needless brackets the one that is asked for.
func (p plain) program(n api.Node) string {
	var lines []string
	for _, item := range n.Kids {
		head := "fn " + item.Text
		if item.Kind == api.NRecord {
			lines = append(lines, "record "+item.Text+" {")
			for _, f := range item.Kids {
				lines = append(lines, "\t"+p.text(f)+";")
			}
			lines = append(lines, "}")
			continue
		}
		head += "(" + p.all(item.Kids[0].Kids) + ")"
		switch types := item.Kids[1].Kids; len(types) {
		case 0:
		case 1:
			head += " " + p.text(types[0])
		default:
			head += " (" + p.all(types) + ")"
		}
		lines = append(lines, p.braced(head+" ", item.Kids[2])...)
	}
	return ended(lines)
}

func ended(lines []string) string {
	if len(lines) == 0 {
		return ""
	}
	return strings.Join(lines, "\n") + "\n"
}

// stmt tells the lines of a statement, as they stand where it is not indented.
func (p plain) stmt(n api.Node) []string {
	label := ""
	if n.Text != "" {
		label = n.Text + ": "
	}
	switch n.Kind {
	case api.NBlock:
		return p.braced("", n)
	case api.NIf:
		lines := p.braced("if "+p.text(n.Kids[0])+" ", n.Kids[1])
		if len(n.Kids) == 3 {
			behind := p.stmt(n.Kids[2])
			lines[len(lines)-1] += " else " + behind[0]
			lines = append(lines, behind[1:]...)
		}
		return lines
	case api.NWhile:
		return p.braced(label+"while "+p.text(n.Kids[0])+" ", n.Kids[1])
	case api.NFor:
		return p.braced(label+"for "+p.text(n.Kids[0])+"; "+p.text(n.Kids[1])+"; "+p.text(n.Kids[2])+" ", n.Kids[3])
	case api.NSwitch:
		return append(append([]string{label + "switch " + p.text(n.Kids[0]) + " {"}, p.arms(n.Kids[1:])...), "}")
	case api.NBreak, api.NContinue:
		word := map[uint8]string{api.NBreak: "break", api.NContinue: "continue"}[n.Kind]
		return []string{strings.TrimSpace(word+" "+n.Text) + ";"}
	case api.NReturn:
		return []string{strings.TrimSpace("return "+p.all(n.Kids)) + ";"}
	}
	return []string{p.text(n) + ";"}
}

func (p plain) braced(head string, block api.Node) []string {
	return slices.Concat([]string{head + "{"}, p.inner(block), []string{"}"})
}

func (p plain) arms(arms []api.Node) []string {
	var lines []string
	for _, n := range arms {
		last := len(n.Kids) - 1
		head := "default:"
		if n.Kind == api.NCase {
			head = "case " + plain{}.all(n.Kids[:last]) + ":" // a number of a case takes no brackets
		}
		lines = append(append(lines, head), p.inner(n.Kids[last])...)
	}
	return lines
}

func (p plain) inner(block api.Node) []string {
	var lines []string
	for _, n := range block.Kids {
		for _, line := range p.stmt(n) {
			lines = append(lines, "\t"+line)
		}
	}
	return lines
}
