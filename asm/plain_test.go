package asm

import (
	"fmt"
	"math/big"
	"math/rand"
	"regexp"
	"slices"
	"strings"
	"testing"

	"trammel/api"
	"trammel/image"
	"trammel/ops"
)

// A second reading of the chapter: words are cut by regular expressions, a line is all of its words ahead of what they mean, and both the
// words of a line and the lines of a text are held against tables of steps.

var (
	wordOf   = regexp.MustCompile("^[^\t\r\n \";]+")
	blankOf  = regexp.MustCompile("^[\t\r ]+")
	stringOf = regexp.MustCompile(`^"(?:[ !#-\[\]-~]|\\[0-9a-f][0-9a-f])*`) // without its end: what it goes on with, is wrong
	escapeOf = regexp.MustCompile(`\\..`)
	numberIs = regexp.MustCompile(`^(?:0|-?[1-9][0-9]*)$`)
)

// plainWord is a word: its kind is s (string), b (one with a fault, at bad), n (number), a (arm), e (else), or x (any other).
type plainWord struct {
	kind    string
	text    string // of a string what it stands for
	at, bad int
	n, to   int
}

func plainNumber(s string) (int, bool) {
	if !numberIs.MatchString(s) {
		return 0, false
	}
	n, _ := new(big.Int).SetString(s, 10)
	return int(n.Int64()), n.IsInt64()
}

func plainKind(s string, at int) plainWord {
	w := plainWord{kind: "x", text: s, at: at}
	if n, ok := plainNumber(s); ok {
		w.kind, w.n = "n", n
	}
	if s == "else" {
		w.kind = "e"
	}
	if i := strings.Index(s, ":"); i >= 0 {
		n, ok := plainNumber(s[:i])
		to, also := plainNumber(s[i+1:])
		if ok && also {
			w.kind, w.n, w.to = "a", n, to
		}
	}
	return w
}

// plainString reads what stands between the quotes.
func plainString(s string) string {
	return escapeOf.ReplaceAllStringFunc(s, func(x string) string {
		var c byte
		fmt.Sscanf(x[1:], "%x", &c)
		return string([]byte{c})
	})
}

// plainWords tells the words of a line from a place on, and the line's end. Behind a string with a fault it tells nothing.
func plainWords(s string, at int) ([]plainWord, int) {
	var list []plainWord
	for {
		rest := s[at:]
		switch {
		case rest == "" || rest[0] == ';':
			return list, at
		case rest[0] == '"':
			size := len(stringOf.FindString(rest))
			if size == len(rest) || rest[size] != '"' {
				return append(list, plainWord{kind: "b", at: at, bad: at + size}), at
			}
			list = append(list, plainWord{kind: "s", text: plainString(rest[1:size]), at: at})
			at += size + 1
		case blankOf.MatchString(rest):
			at += len(blankOf.FindString(rest))
		default:
			word := wordOf.FindString(rest)
			list = append(list, plainKind(word, at))
			at += len(word)
		}
	}
}

// plainSteps tells the steps of a kind of line: a state, a word's kind, the state behind it; and the state in which it may end.
func plainSteps(part, name string) (string, byte, bool) {
	switch part + " " + name {
	case "O record":
		return "0s1 1s2 2n1", '1', true
	case "O fixed":
		return "0n1 1n2", '2', true
	case "O grow":
		return "0n1", '1', true
	case "O text":
		return "0s1", '1', true
	case "O func":
		return "0s1 1n2 2n3", '3', true
	case "P params", "R results":
		return "0n0", '0', true
	case "I end":
		return "", '0', true
	case "I switch":
		return "0n1 1a1 1e2 2n3", '3', true
	}
	op := slices.Index(names, name)
	if part != "I" || op < 1 {
		return "", 0, false
	}
	return []string{"", "0n1", "0n1 1n2"}[counts[op]], "012"[counts[op]], true
}

// plainWrong tells the place of what is wrong with a line's words; false, if nothing is. A string with a fault is no word, and wrong at that.
func plainWrong(part string, words []plainWord, end int) (int, bool) {
	steps, last, ok := plainSteps(part, words[0].text)
	switch {
	case words[0].kind == "b":
		return words[0].bad, true
	case !ok || words[0].kind == "s":
		return words[0].at, true
	}
	state := byte('0')
	for _, w := range words[1:] {
		if w.kind == "b" {
			return w.bad, true
		}
		i := strings.Index(steps, string(state)+w.kind)
		if i < 0 {
			return w.at, true
		}
		state = steps[i+2]
	}
	return end, state != last
}

// plainModule is a module of which its lines are told.
type plainModule struct {
	api.Module
	part string // O outside of functions, P where params must stand, R where results must, I inside of a function
}

// put takes a line whose words are right; false, if its instruction is none.
func (m *plainModule) put(words []plainWord) bool {
	var texts []string
	var numbers []int
	var arms []api.Arm
	for _, w := range words[1:] {
		switch w.kind {
		case "s":
			texts = append(texts, w.text)
		case "n":
			numbers = append(numbers, w.n)
		case "a":
			arms = append(arms, api.Arm{Value: int64(w.n), To: w.to})
		}
	}
	if m.part != "O" {
		return m.inner(words[0].text, numbers, arms)
	}
	switch words[0].text {
	case "record":
		x := api.Type{Kind: api.Record, Name: texts[0]}
		for i, n := range numbers {
			x.Fields = append(x.Fields, api.Field{Name: texts[i+1], Type: n})
		}
		m.Types = append(m.Types, x)
	case "fixed":
		m.Types = append(m.Types, api.Type{Kind: api.Fixed, Elem: numbers[0], Len: numbers[1]})
	case "grow":
		m.Types = append(m.Types, api.Type{Kind: api.Grow, Elem: numbers[0]})
	case "text":
		m.Texts = append(m.Texts, texts[0])
	case "func":
		m.Funcs = append(m.Funcs, api.Routine{Name: texts[0], Locals: numbers[0], Stack: numbers[1]})
		m.part = "P"
	}
	return true
}

func (m *plainModule) inner(name string, numbers []int, arms []api.Arm) bool {
	f := &m.Funcs[len(m.Funcs)-1]
	switch name {
	case "params":
		f.Params, m.part = numbers, "R"
	case "results":
		f.Results, m.part = numbers, "I"
	case "end":
		m.part = "O"
	default:
		x := api.Instr{Op: uint8(slices.Index(names, name)), Arms: arms}
		numbers = append(numbers, 0, 0)
		x.A, x.B = int64(numbers[0]), int64(numbers[1])
		if ops.Size(x) == 0 {
			return false
		}
		code, _ := ops.Encode(x)
		f.Code = append(f.Code, code...)
	}
	return true
}

func plainParse(s string) (api.Module, int, api.Errno) {
	if len(s) > 33554432 {
		return api.Module{}, 0, api.ErrLimit
	}
	m := plainModule{part: "O"}
	at := 0
	for _, l := range strings.SplitAfter(s, "\n") {
		words, end := plainWords(s[:at+len(strings.TrimSuffix(l, "\n"))], at)
		at += len(l)
		if len(words) == 0 {
			continue
		}
		if place, bad := plainWrong(m.part, words, end); bad {
			return api.Module{}, place, api.ErrAsm
		}
		if !m.put(words) {
			return api.Module{}, words[0].at, api.ErrAsm
		}
	}
	if m.part != "O" {
		return api.Module{}, len(s), api.ErrAsm
	}
	if err := image.Check(m.Module); err != api.OK {
		return api.Module{}, 0, err
	}
	return m.Module, 0, api.OK
}

// plainPrint writes a module's text by formats.
func plainPrint(m api.Module) string {
	var b strings.Builder
	quoted := func(s string) string {
		var b strings.Builder
		for _, c := range []byte(s) {
			if strings.IndexByte("\"\\", c) >= 0 || c <= 31 || c >= 127 {
				fmt.Fprintf(&b, "\\%02x", c)
			} else {
				b.WriteByte(c)
			}
		}
		return "\"" + b.String() + "\""
	}
	for _, x := range m.Types {
		switch x.Kind {
		case api.Record:
			fmt.Fprintf(&b, "record %s", quoted(x.Name))
			for _, f := range x.Fields {
				fmt.Fprintf(&b, " %s %d", quoted(f.Name), f.Type)
			}
			fmt.Fprintln(&b)
		case api.Fixed:
			fmt.Fprintf(&b, "fixed %d %d\n", x.Elem, x.Len)
		case api.Grow:
			fmt.Fprintf(&b, "grow %d\n", x.Elem)
		}
	}
	for _, s := range m.Texts {
		fmt.Fprintf(&b, "text %s\n", quoted(s))
	}
	for _, f := range m.Funcs {
		list := func(l []int) string { return strings.TrimSuffix(" "+strings.Trim(fmt.Sprint(l), "[]"), " ") }
		fmt.Fprintf(&b, "func %s %d %d\n  params%s\n  results%s\n", quoted(f.Name), f.Locals, f.Stack, list(f.Params), list(f.Results))
		for at := 0; at < len(f.Code); {
			x, next, _ := ops.Decode(f.Code, at)
			b.WriteString("  " + plainInstr(x) + "\n")
			at = next
		}
		fmt.Fprintln(&b, "end")
	}
	return b.String()
}

func plainInstr(x api.Instr) string {
	if x.Op == 49 {
		arms := ""
		for _, a := range x.Arms {
			arms += fmt.Sprintf(" %d:%d", a.Value, a.To)
		}
		return fmt.Sprintf("switch %d%s else %d", x.A, arms, x.B)
	}
	return names[x.Op] + []string{"", fmt.Sprintf(" %d", x.A), fmt.Sprintf(" %d %d", x.A, x.B)}[counts[x.Op]]
}

// asPlain holds Parse to the second reading, and tells its error.
func asPlain(t *testing.T, s string) api.Errno {
	t.Helper()
	m, at, err := Parse(s)
	wantModule, wantAt, want := plainParse(s)
	if err != want || at != wantAt || !image.Same(m, wantModule) {
		t.Fatalf("Parse(%s) = %.500v, %d, %d, want %.500v, %d, %d", short(s), fmt.Sprint(m), at, err, fmt.Sprint(wantModule), wantAt, want)
	}
	return err
}

// each calls f with every text of at most so many of these parts.
func each(parts []string, most int, f func(string)) {
	rows := []string{""}
	for range most {
		var longer []string
		for _, r := range rows {
			for _, p := range parts {
				longer = append(longer, r+p)
				f(r + p)
			}
		}
		rows = longer
	}
}

// All short rows of parts, outside of a function and in each part of one.
func TestP14_2AllShortTexts(t *testing.T) {
	each([]string{"grow", "1", "text", `"a"`, `"`, " ", "\n", ";", `\41`, `\`}, 5, func(s string) { asPlain(t, s) })
	each([]string{"record ", "fixed ", `"a"`, "\"\xff\"", "16 ", "-", "0", "\r", "\n", ";"}, 4, func(s string) { asPlain(t, s) })
	each([]string{`func "" 1 1`, "\nparams", "\nresults", "\nend", " 3", "\npop", "\n", "\ntext", " 0", "x"}, 5, func(s string) { asPlain(t, s) })
	head := "func\"\"1 1\nparams\nresults\n"
	each([]string{"pop", "add", "conv", " 1", " 4", " ", "\n", "end", ";", "-"}, 5, func(s string) { asPlain(t, head+s) })
	each([]string{"switch", " 1", " 2:3", ":", " else", "\nend", " -1:0", "\"", "9", "\t"}, 5, func(s string) { asPlain(t, head+s) })
}

// parts are what texts made at will are made of.
var parts = strings.Split("record|fixed|grow|text|func|params|results|end|switch|else|pop|true|get|conv|field|i8|i64|return|call|trap|at|add|eq|jump|"+
	"0|1|2|3|4|5|16|17|18|-1|127|128|-129|255|256|65535|65536|65537|4096|4097|257|9223372036854775807|9223372036854775808|-9223372036854775808|-0|00|01|-|+1|"+
	"1:2|5:0|-1:4294967295|1:4294967296|:|1:|:1|1:2:3|128:1|\"\"|\"a\"|\"P\"|\"a;b\"|\"\\0a\"|\"\\ff\\22\"|\"\\\"|\"\\4|\"\\4A\"|\"a|\"|\"\xff\"|\"\t\"|x|grow1|\x00|\xff|;|; x|;\"", "|")

// anyLine draws a line that may stand somewhere, most of them right.
func anyLine(r *rand.Rand) string {
	num := func() string { return parts[24+r.Intn(12)] }
	str := func() string { return []string{`""`, `"a"`, `"a;b"`, `"\0a\ff"`, `" "`}[r.Intn(5)] }
	switch r.Intn(14) {
	case 0:
		s := "record " + str()
		for range r.Intn(3) {
			s += " " + str() + " " + num()
		}
		return s
	case 1:
		return "fixed " + num() + " " + num()
	case 2:
		return "grow " + num()
	case 3:
		return "text " + str()
	case 4:
		return "func " + str() + " 4 " + num() + "\n params 1\nresults"
	case 5:
		return "end"
	case 6:
		return "switch " + num() + " " + num() + ":" + num() + " else " + num()
	case 7:
		return parts[r.Intn(len(parts))]
	}
	op := 1 + r.Intn(52)
	s := names[op]
	for range counts[op] {
		s += " " + num()
	}
	return s
}

// Texts of words drawn at will, and of lines of which a word or two are others.
func TestP14_2AnyTexts(t *testing.T) {
	r := rand.New(rand.NewSource(141))
	seen := map[api.Errno]int{}
	blanks := []string{" ", " ", " ", "\t", "\r", "", "\n", "\n", "  "}
	for range 60000 {
		var b strings.Builder
		for range r.Intn(12) {
			b.WriteString(parts[r.Intn(len(parts))] + blanks[r.Intn(len(blanks))])
		}
		seen[asPlain(t, b.String())]++
	}
	for range 60000 {
		var b strings.Builder
		for range r.Intn(4) {
			b.WriteString([]string{"grow 1\n", "fixed 16 4\n", "text \"a\"\n", "record \"\" \"\" 1\n", "func \"f\" 9 9\nparams\nresults\npop\nend\n"}[r.Intn(5)])
		}
		if r.Intn(2) == 0 {
			b.WriteString("func \"f\" 9 9\nparams 1 2\nresults\n")
		}
		for range r.Intn(4) {
			b.WriteString(anyLine(r) + "\n")
		}
		if r.Intn(2) == 0 {
			b.WriteString("end\n")
		}
		seen[asPlain(t, b.String())]++
	}
	for _, err := range []api.Errno{api.OK, api.ErrAsm, api.ErrModule} {
		if seen[err] < 1000 {
			t.Errorf("%d was told %d times", err, seen[err])
		}
	}
}

// Texts of modules in which a few bytes, or a word or a line, are others.
func TestP14_2ChangedTexts(t *testing.T) {
	r := rand.New(rand.NewSource(142))
	seen := map[api.Errno]int{}
	for range 60000 {
		s := plainPrint(anyModule(r))
		for range 1 + r.Intn(2) {
			if len(s) == 0 {
				break
			}
			at := r.Intn(len(s))
			end := at + r.Intn(min(3, len(s)-at+1))
			switch r.Intn(6) {
			case 0:
				s = s[:at] + s[end:]
			case 1:
				s = s[:at] + string([]byte{byte(r.Intn(256))}) + s[end:]
			case 2:
				s = s[:at] + "\"\\; \n\t:-0189"[r.Intn(8):][:1] + s[end:]
			case 3:
				s = s[:at]
			case 4:
				words := strings.SplitAfter(s, " ")
				words[r.Intn(len(words))] = parts[r.Intn(len(parts))] + " "
				s = strings.Join(words, "")
			case 5:
				lines := strings.SplitAfter(s, "\n")
				i, j := r.Intn(len(lines)), r.Intn(len(lines))
				lines[i], lines[j] = lines[j], lines[i]
				s = strings.Join(lines, "")
			}
		}
		seen[asPlain(t, s)]++
	}
	for _, err := range []api.Errno{api.OK, api.ErrAsm, api.ErrModule} {
		if seen[err] < 300 {
			t.Errorf("%d was told %d times", err, seen[err])
		}
	}
}

func TestP14_1AnyModules(t *testing.T) {
	r := rand.New(rand.NewSource(143))
	for range 20000 {
		m := anyModule(r)
		printed(t, m, plainPrint(m))
	}
}
