package lower

import (
	"fmt"
	"slices"
	"strings"

	"trammel/api"
)

// A second reading of the chapter: its own words, with what stands where a part's lines, a number or a label shall stand. A digit
// stands for that part's lines, * for those of all parts; N is the term's number, type that of its own type, of that of its first
// part's type; a great letter is a label, with a : behind it where it stands, with a @ ahead of it where something leads to it.
var plainWords = map[uint8]string{
	api.XTrue: "true", api.XFalse: "false", api.XName: "get N",
	api.XCall: "*; call N", api.XConv: "*; conv of type", api.XField: "*; field of N",
	api.XAt: "*; at of", api.XLen: "*; len of", api.XCut: "*; cut", api.XByte: "*; byte", api.XPop: "*; drop of",
	api.XNeg: "*; neg of", api.XNot: "*; not of", api.XFlip: "*; flip",
	api.XAdd: "*; add of", api.XSub: "*; sub of", api.XMul: "*; mul of", api.XDiv: "*; div of", api.XRem: "*; rem of",
	api.XAnd: "*; and of", api.XOr: "*; or of", api.XXor: "*; xor of", api.XShl: "*; shl of", api.XShr: "*; shr of",
	api.XEq: "*; eq of", api.XNe: "*; ne of", api.XLt: "*; lt of", api.XLe: "*; le of", api.XGt: "*; gt of", api.XGe: "*; ge of",
	api.XBoth:   "0; dup; unless @E; pop; 1; E:",
	api.XEither: "0; dup; when @E; pop; 1; E:",
	api.SBlock:  "*", api.SPut: "*; put N", api.SField: "*; setfield of N", api.SAt: "*; setat of", api.SPush: "*; push of",
	api.SIf:   "0; unless @E; 1; jump @O; E:; 2; O:",
	api.SLoop: "T:; 0; unless @O; 1; N:; 2; jump @T; O:",
	api.SNext: "jump @N", api.SBreak: "jump @O",
	api.SReturn: "*; return", api.STrap: "trap N",
}

// plainOfBytes are the words of those that are others of a text.
var plainOfBytes = map[uint8]string{api.XAt: "*; charat", api.XLen: "*; size", api.XAdd: "*; cat"}

// plainer puts the lines of a program's function: instructions and labels, still by names of their own.
type plainer struct {
	p     api.Program
	texts []string
	lines []string
	count int // of the labels' names
}

// wordsOf tells the words of a term whose lines hang on nothing but its parts.
func (r *plainer) wordsOf(t api.Term) string {
	switch {
	case t.Op == api.XInt:
		return map[int]string{api.I8: "i8 N", api.I32: "i32 N", api.I64: "i64 N"}[t.Type]
	case t.Op == api.XText:
		return fmt.Sprint("text ", slices.Index(r.texts, t.Text))
	case t.Op == api.XNew:
		return map[uint8]string{api.Record: "*; new type", api.Fixed: "*; fill type", api.Grow: "*; empty type"}[r.p.Types[t.Type-16].Kind]
	case t.Op == api.SLoop && t.Kids[0].Op == api.XTrue:
		return "T:; 1; N:; 2; jump @T; O:"
	case t.Op == api.SDo:
		return "0" + strings.Repeat("; pop", len(r.p.Funcs[t.Kids[0].N].Results))
	case t.Op == api.SPuts:
		s := fmt.Sprint(len(t.Kids) - 1)
		for i := len(t.Kids) - 2; i >= 0; i-- {
			s += fmt.Sprint("; put ", t.Kids[i].N)
		}
		return s
	case len(t.Kids) > 0 && t.Kids[0].Type == api.Text && plainOfBytes[t.Op] != "":
		return plainOfBytes[t.Op]
	}
	return plainWords[t.Op]
}

// term puts a term's lines.
func (r *plainer) term(t api.Term) {
	name := fmt.Sprint(" term ", r.count)
	r.count++
	if slices.Contains([]uint8{api.SLoop, api.SSwitch, api.SBreak, api.SNext}, t.Op) {
		name = fmt.Sprint(" turn ", t.N)
	}
	if t.Op == api.SSwitch {
		r.choice(t, name)
		return
	}
	if t.Op == api.SBlock { // it may have very many
		for _, kid := range t.Kids {
			r.term(kid)
		}
		return
	}
	for _, item := range strings.Split(r.wordsOf(t), "; ") {
		switch first := item[0]; {
		case first == '*':
			for _, kid := range t.Kids {
				r.term(kid)
			}
		case first >= '0' && first <= '9':
			var at int
			fmt.Sscan(item, &at)
			r.term(t.Kids[at])
		case strings.HasSuffix(item, ":"):
			r.lines = append(r.lines, item+name)
		default:
			r.lines = append(r.lines, r.filled(t, item, name))
		}
	}
}

// filled puts the numbers and labels' names into an instruction.
func (r *plainer) filled(t api.Term, item, name string) string {
	words := strings.Split(item, " ")
	for i, w := range words {
		switch {
		case w == "N":
			words[i] = fmt.Sprint(t.N)
		case w == "type" && i > 0:
			words[i] = fmt.Sprint(t.Type)
		case w == "of":
			words[i] = fmt.Sprint(t.Kids[0].Type)
		case w[0] == '@':
			words[i] = w + strings.ReplaceAll(name, " ", "_")
		}
	}
	return strings.Join(words, " ")
}

// choice puts the lines of an SSwitch: the least number that is left is the next arm's.
func (r *plainer) choice(t api.Term, name string) {
	type number struct {
		value int64
		at    int
	}
	var left []number
	last := len(t.Kids) - 1
	for i, c := range t.Kids[1:last] {
		for _, x := range c.Kids[:len(c.Kids)-1] {
			left = append(left, number{x.N, i})
		}
	}
	r.term(t.Kids[0])
	under := strings.ReplaceAll(name, " ", "_")
	slices.SortStableFunc(left, func(a, b number) int {
		if a.value < b.value {
			return -1
		}
		return 1
	})
	var s strings.Builder
	fmt.Fprint(&s, "switch ", t.Kids[0].Type)
	for _, x := range left {
		fmt.Fprint(&s, " ", x.value, ":@C", x.at, under)
	}
	r.lines = append(r.lines, s.String()+" @D"+under)
	for i, c := range t.Kids[1:last] {
		r.lines = append(r.lines, fmt.Sprint("C", i, ":", name))
		r.term(c.Kids[len(c.Kids)-1])
		r.lines = append(r.lines, "jump @O"+under)
	}
	r.lines = append(r.lines, "D:"+name)
	r.term(t.Kids[last])
	r.lines = append(r.lines, "O:"+name)
}

// isLabel tells the name of a label whose line this is, as what leads there has it.
func isLabel(line string) (string, bool) {
	front, back, ok := strings.Cut(line, ": ")
	return "@" + front + strings.ReplaceAll(" "+back, " ", "_"), ok
}

// normal tells the lines with labels where something leads, one at a place, by numbers that rise.
func (r *plainer) normal() []string {
	places := map[string]int{} // how many instructions stand ahead of each label
	var instrs []string
	for _, line := range r.lines {
		if name, ok := isLabel(line); ok {
			places[name] = len(instrs)
		} else {
			instrs = append(instrs, line)
		}
	}
	heads := make([]bool, len(instrs)+1)
	for _, x := range instrs {
		for _, w := range plainTargets(x) {
			heads[places[w]] = true
		}
	}
	numbers := map[int]int{}
	for i, head := range heads {
		if head {
			numbers[i] = len(numbers)
		}
	}
	var out []string
	for i := range heads {
		if heads[i] {
			out = append(out, fmt.Sprint("L", numbers[i], ":"))
		}
		if i < len(instrs) {
			out = append(out, renamed(instrs[i], func(name string) string { return fmt.Sprint("L", numbers[places[name]]) }))
		}
	}
	return out
}

// plainTargets tells the labels' names to which an instruction leads.
func plainTargets(x string) []string {
	var list []string
	for _, w := range strings.Fields(x) {
		if at := strings.Index(w, "@"); at >= 0 {
			list = append(list, w[at:])
		}
	}
	return list
}

// renamed puts other names in the places of targets.
func renamed(x string, f func(name string) string) string {
	words := strings.Split(x, " ")
	for i, w := range words {
		if at := strings.Index(w, "@"); at >= 0 {
			words[i] = w[:at] + f(w[at:])
		}
	}
	return strings.Join(words, " ")
}

// plainTexts tells a program's texts.
func plainTexts(p api.Program) []string {
	var list []string
	known := map[string]bool{}
	var look func(t api.Term)
	look = func(t api.Term) {
		if t.Op == api.XText && !known[t.Text] {
			known[t.Text] = true
			list = append(list, t.Text)
		}
		for _, kid := range t.Kids {
			look(kid)
		}
	}
	for _, f := range p.Funcs {
		look(f.Body)
	}
	return list
}

// plainFunc tells the lines of a function of a program that may be lowered, as they are written but for blanks in front.
func plainFunc(p api.Program, i int) []string {
	r := &plainer{p: p, texts: plainTexts(p)}
	r.term(p.Funcs[i].Body)
	if len(p.Funcs[i].Results) == 0 {
		r.lines = append(r.lines, "return")
	} else {
		r.lines = append(r.lines, "trap 0")
	}
	return r.normal()
}

// plainSizes are how many bytes stand behind an Op, those that have none left out.
var plainSizes = map[string]int{
	"i8": 1, "i32": 4, "i64": 8, "text": 2, "get": 2, "put": 2, "call": 2, "new": 2, "fill": 2, "empty": 2, "at": 2, "setat": 2, "len": 2,
	"push": 2, "drop": 2, "field": 4, "setfield": 4, "conv": 2, "jump": 4, "unless": 4, "when": 4, "trap": 1, "switch": 7,
	"add": 1, "sub": 1, "mul": 1, "div": 1, "rem": 1, "and": 1, "or": 1, "xor": 1, "shl": 1, "shr": 1, "neg": 1, "not": 1,
	"eq": 1, "ne": 1, "lt": 1, "le": 1, "gt": 1, "ge": 1,
}

// plainSize tells how many bytes lines have, as they are written.
func plainSize(lines []string) int {
	size := 0
	for _, line := range lines {
		words := strings.Fields(line)
		switch {
		case strings.HasSuffix(line, ":"):
		case words[0] == "switch":
			size += 1 + plainSizes["switch"] + 12*(len(words)-3)
		default:
			size += 1 + plainSizes[words[0]]
		}
	}
	return size
}
