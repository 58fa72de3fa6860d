package check

import (
	"fmt"
	"slices"
	"strings"
	"testing"

	"trammel/api"
	"trammel/kinds"
	"trammel/parse"
)

// opNames are the kinds of terms as package api names them.
var opNames = map[uint8]string{
	api.SBlock: "SBlock", api.SPut: "SPut", api.SPuts: "SPuts", api.SField: "SField", api.SAt: "SAt", api.SDo: "SDo", api.SPush: "SPush",
	api.SIf: "SIf", api.SLoop: "SLoop", api.SSwitch: "SSwitch", api.SCase: "SCase", api.SBreak: "SBreak", api.SNext: "SNext",
	api.SReturn: "SReturn", api.STrap: "STrap", api.SSlot: "SSlot",
	api.XInt: "XInt", api.XText: "XText", api.XTrue: "XTrue", api.XFalse: "XFalse", api.XName: "XName", api.XCall: "XCall", api.XConv: "XConv",
	api.XNew: "XNew", api.XField: "XField", api.XAt: "XAt", api.XLen: "XLen", api.XCut: "XCut", api.XByte: "XByte", api.XPop: "XPop",
	api.XNeg: "XNeg", api.XNot: "XNot", api.XFlip: "XFlip", api.XAdd: "XAdd", api.XSub: "XSub", api.XMul: "XMul", api.XDiv: "XDiv",
	api.XRem: "XRem", api.XAnd: "XAnd", api.XOr: "XOr", api.XXor: "XXor", api.XShl: "XShl", api.XShr: "XShr", api.XEq: "XEq", api.XNe: "XNe",
	api.XLt: "XLt", api.XLe: "XLe", api.XGt: "XGt", api.XGe: "XGe", api.XBoth: "XBoth", api.XEither: "XEither",
}

// tell writes a term: its kind, : and its type, # and its number, its text, its Kids.
func tell(t api.Term) string {
	var b strings.Builder
	b.WriteString(opNames[t.Op])
	if opNames[t.Op] == "" {
		fmt.Fprint(&b, t.Op)
	}
	if t.Type != 0 {
		fmt.Fprint(&b, ":", t.Type)
	}
	if t.N != 0 {
		fmt.Fprint(&b, "#", t.N)
	}
	if t.Text != "" {
		fmt.Fprintf(&b, "%q", t.Text)
	}
	if len(t.Kids) > 0 {
		b.WriteString("(" + tellAll(t.Kids) + ")")
	}
	return b.String()
}

func tellAll(list []api.Term) string {
	var texts []string
	for _, t := range list {
		texts = append(texts, tell(t))
	}
	return strings.Join(texts, " ")
}

// tellProgram writes all of a program.
func tellProgram(p api.Program) string {
	text := ""
	for i, t := range p.Types {
		text += fmt.Sprintf("type %d %s %v\n", 16+i, kinds.Name(p.Types, 16+i), t)
	}
	for _, f := range p.Funcs {
		text += fmt.Sprintf("fn %s %v %v %v %d %s\n", f.Name, f.Params, f.Results, f.Slots, f.Nodes, tell(f.Body))
	}
	return text
}

// read tells the tree of a source that is right.
func read(t *testing.T, s string) api.Node {
	t.Helper()
	n, place, wrong := parse.Source(s)
	if wrong != api.OK {
		t.Fatalf("%.300q: %d at %d", s, wrong, place)
	}
	return n
}

// made tells the program of a source that is right.
func made(t *testing.T, s string) api.Program {
	t.Helper()
	p, place, wrong := Program(read(t, s))
	if wrong != api.OK || place != 0 {
		t.Fatalf("%.300q: %d at %d", s, wrong, place)
	}
	return p
}

// refused holds a source to be refused so, at the place of a mark: the byte behind the first § in it, which is left out.
func refused(t *testing.T, marked string, wrong api.Errno) {
	t.Helper()
	ahead, behind, ok := strings.Cut(marked, "§")
	if !ok {
		t.Fatalf("%q: no mark", marked)
	}
	refusedAt(t, ahead+behind, read(t, ahead+behind), len(ahead), wrong)
}

// refusedAt holds a tree to be refused so.
func refusedAt(t *testing.T, s string, n api.Node, place int, wrong api.Errno) {
	t.Helper()
	p, gotPlace, gotWrong := Program(n)
	if gotWrong != wrong || gotPlace != place {
		t.Errorf("%.300q: %d at %d, want %d at %d", s, gotWrong, gotPlace, wrong, place)
	}
	if wrong != api.OK && (len(p.Types) > 0 || len(p.Funcs) > 0) {
		t.Errorf("%.300q: a program beside an error", s)
	}
}

// row writes texts, each made of a number from 0 on, with a text between.
func row(count int, between string, form string) string {
	var list []string
	for i := range count {
		list = append(list, strings.ReplaceAll(form, "#", fmt.Sprint(i)))
	}
	return strings.Join(list, between)
}

// copied tells a program that shares no memory with the first one.
func copied(p api.Program) api.Program {
	p.Types = slices.Clone(p.Types)
	for i, t := range p.Types {
		p.Types[i].Fields = slices.Clone(t.Fields)
	}
	p.Funcs = slices.Clone(p.Funcs)
	for i, f := range p.Funcs {
		p.Funcs[i].Params, p.Funcs[i].Results, p.Funcs[i].Slots = slices.Clone(f.Params), slices.Clone(f.Results), slices.Clone(f.Slots)
		p.Funcs[i].Body = copiedTerm(f.Body)
	}
	return p
}

func copiedTerm(t api.Term) api.Term {
	t.Kids = slices.Clone(t.Kids)
	for i, k := range t.Kids {
		t.Kids[i] = copiedTerm(k)
	}
	return t
}

// eachTerm calls f with each term of a term, it itself first.
func eachTerm(t *api.Term, f func(*api.Term)) {
	f(t)
	for i := range t.Kids {
		eachTerm(&t.Kids[i], f)
	}
}

// eachNode calls f with each node of a tree, it itself first.
func eachNode(n *api.Node, f func(*api.Node)) {
	f(n)
	for i := range n.Kids {
		eachNode(&n.Kids[i], f)
	}
}

// termsOf reads what tellAll writes.
func termsOf(t *testing.T, s string) []api.Term {
	t.Helper()
	list, rest := readTerms(s)
	if rest != "" || tellAll(list) != s {
		t.Fatalf("%s: read as %s", s, tellAll(list))
	}
	return list
}

// readTerms reads terms up to the end, or to a ), and tells what stands behind them.
func readTerms(s string) ([]api.Term, string) {
	var list []api.Term
	for s != "" && s[0] != ')' {
		var k api.Term
		word := upTo(s, ":#\"() ")
		s = s[len(word):]
		for op, name := range opNames {
			if name == word {
				k.Op = op
			}
		}
		if k.Op == 0 {
			fmt.Sscan(word, &k.Op)
		}
		for s != "" && strings.ContainsAny(s[:1], ":#") {
			number := upTo(s[1:], ":#\"() ")
			if s[0] == ':' {
				fmt.Sscan(number, &k.Type)
			} else {
				fmt.Sscan(number, &k.N)
			}
			s = s[1+len(number):]
		}
		if strings.HasPrefix(s, "\"") {
			text := s[:2+strings.Index(s[1:], "\"")]
			k.Text = text[1 : len(text)-1]
			s = s[len(text):]
		}
		if strings.HasPrefix(s, "(") {
			k.Kids, s = readTerms(s[1:])
			s = strings.TrimPrefix(s, ")")
		}
		s = strings.TrimPrefix(s, " ")
		list = append(list, k)
	}
	return list, s
}

// upTo tells what stands ahead of the first of these bytes.
func upTo(s, ends string) string {
	if i := strings.IndexAny(s, ends); i >= 0 {
		return s[:i]
	}
	return s
}
