package parse

import (
	"fmt"
	"math/rand"
	"slices"
	"strings"
	"testing"
	"unsafe"

	"trammel/api"
	"trammel/lex"
)

// short tells a source for a message, cut where it is long.
func short(s string) string {
	if len(s) > 300 {
		return fmt.Sprintf("%q .. %q (%d bytes)", s[:100], s[len(s)-100:], len(s))
	}
	return fmt.Sprintf("%q", s)
}

func isZero(n api.Node) bool {
	return n.Kind == 0 && n.At == 0 && n.Text == "" && n.N == 0 && len(n.Kids) == 0
}

// same: are two trees the same, but for places?
func same(a, b api.Node) bool {
	return a.Kind == b.Kind && a.Text == b.Text && a.N == b.N && slices.EqualFunc(a.Kids, b.Kids, same)
}

// sameAll: are two trees the same, with their places?
func sameAll(a, b api.Node) bool {
	return a.Kind == b.Kind && a.At == b.At && a.Text == b.Text && a.N == b.N && slices.EqualFunc(a.Kids, b.Kids, sameAll)
}

// tell writes a tree: kind@place:text#number(kids).
func tell(n api.Node) string {
	s := fmt.Sprint(n.Kind, "@", n.At)
	if n.Text != "" {
		s += ":" + n.Text
	}
	if n.N != 0 {
		s += fmt.Sprint("#", n.N)
	}
	if len(n.Kids) > 0 {
		var list []string
		for _, k := range n.Kids {
			list = append(list, tell(k))
		}
		s += "(" + strings.Join(list, " ") + ")"
	}
	return s
}

// holds holds a reading to a tree that is wanted, told as tell tells it.
func holds(t *testing.T, start symbol, s, want string) {
	t.Helper()
	n, at, err := readAs(start, s)
	if err != api.OK || at != 0 || tell(n) != want {
		t.Errorf("%s %s: %s, %d at %d, want %s", start, short(s), tell(n), err, at, want)
	}
	if e := Check(n); e != api.OK {
		t.Errorf("%s %s: Check of its tree: %d", start, short(s), e)
	}
}

// refuses holds a reading to an error that is wanted.
func refuses(t *testing.T, start symbol, s string, place int, wrong api.Errno) {
	t.Helper()
	n, at, err := readAs(start, s)
	if err != wrong || at != place || !isZero(n) {
		t.Errorf("%s %s: %s, %d at %d, want %d at %d", start, short(s), tell(n), err, at, wrong, place)
	}
}

func TestP4_1Examples(t *testing.T) {
	holds(t, "program", "", "1@0")
	holds(t, "program", " // nothing", "1@0")
	holds(t, "program", "fn f() {}", "1@0(4@3:f(5@4 6@7 10@7))")
	holds(t, "program", "record P { x i8; }", "1@0(2@7:P(3@11:x(7@13:i8)))")
	for s, at := range map[string]int{
		"fn": 2, "fn f": 4, "fn f( {": 6,
		"fn f() { a; }": 10, "fn f() { a.b; }": 12, "fn f() { f() = 1; }": 13, "fn f() { a, b.c = g(); }": 13,
		"fn f() { x: y = 1; }": 12, "fn f() { trap 256; }": 14, "fn while() {}": 3, "fn f() { x; }": 10,
	} {
		refuses(t, "program", s, at, api.ErrSyntax)
	}
}

func TestP4_2Examples(t *testing.T) {
	holds(t, "expr", "1 + 2 * 3", "60@2(40@0#1 62@6(40@4#2 40@8#3))")
	holds(t, "expr", "a - b - c", "61@6(61@2(44@0:a 44@4:b) 44@8:c)")
	holds(t, "expr", "a | b & c", "66@2(44@0:a 65@6(44@4:b 44@8:c))")
	holds(t, "expr", "!a.b[1]", "57@0(49@4(48@3:b(44@1:a) 40@5#1))")
	holds(t, "expr", "a < b && c || d", "77@11(76@6(72@2(44@0:a 44@4:b) 44@9:c) 44@14:d)")
	holds(t, "expr", "-x % 2i8", "64@3(55@0(44@1:x) 40@5:i8#2)")
	holds(t, "type", "[4][]P", "8@0#4(9@3(7@5:P))")
	for s, at := range map[string]int{"a == b == c": 7, "(a": 2, "a)": 1, "new P": 5, "f(,)": 2} {
		refuses(t, "expr", s, at, api.ErrSyntax)
	}
	refuses(t, "expr", strings.Repeat("(", 64)+"a", 65, api.ErrSyntax)
	refuses(t, "expr", strings.Repeat("(", 64), 64, api.ErrSyntax)
	refuses(t, "expr", strings.Repeat("(", 65), 64, api.ErrNest)
	refuses(t, "expr", `"a`, 0, api.ErrString)
	refuses(t, "expr", "1 $", 2, api.ErrChar)
}

// The errors of Tokens come first, whatever stands ahead of them, with their places.
func TestP4_1Tokens(t *testing.T) {
	for _, start := range []symbol{"program", "expr", "type"} {
		for s, want := range map[string]api.Errno{"fn fn #": api.ErrChar, ") ] 12x": api.ErrNumber, "} \"": api.ErrString, "; \"\\q\"": api.ErrEscape, strings.Repeat("(", 99) + "$": api.ErrChar} {
			_, place, wrong := lex.Tokens(s)
			if wrong != want {
				t.Fatalf("Tokens(%q): %d", s, wrong)
			}
			refuses(t, start, s, place, wrong)
		}
		refuses(t, start, strings.Repeat(";", api.MaxTokens+1), api.MaxTokens, api.ErrLimit)
		refuses(t, start, strings.Repeat(" ", api.MaxSource+1), 0, api.ErrLimit)
	}
	holds(t, "program", strings.Repeat(" ", api.MaxSource), "1@0")
	long := strings.Repeat("fn f(){}", api.MaxTokens/6) // six tokens each
	if n, _, err := Source(long); err != api.OK || len(n.Kids) != api.MaxTokens/6 {
		t.Errorf("a long source: %d functions, %d", len(n.Kids), err)
	}
}

// The source's end is its length, blanks and remarks among it.
func TestP4_1End(t *testing.T) {
	for _, s := range []string{"fn", "fn f() {", "fn f() { a = ", "record P {", "fn f() i8", "fn f() { L:", "fn f() { switch a { case 1:", "fn f() { if a { } else"} {
		for _, behind := range []string{"", " ", "\n\n", " // x", "// }\n"} {
			refuses(t, "program", s+behind, len(s+behind), api.ErrSyntax)
		}
	}
	for _, s := range []string{"", "  ", "// a"} {
		refuses(t, "expr", s, len(s), api.ErrSyntax)
		refuses(t, "type", s, len(s), api.ErrSyntax)
	}
	refuses(t, "expr", "(a // )", 7, api.ErrSyntax)
	refuses(t, "type", "[3 ", 3, api.ErrSyntax)
	refuses(t, "type", "[]\n", 3, api.ErrSyntax)
}

// Of Expr and Type nothing may stand behind.
func TestP4_2Behind(t *testing.T) {
	for _, s := range []string{")", "]", "}", ";", ",", "b", "1", `"t"`, "=", "{", "(", "if", ":", "~", "!"} {
		refuses(t, "expr", "1 "+s, 2, api.ErrSyntax)
		refuses(t, "type", "P "+s, 2, api.ErrSyntax)
	}
	refuses(t, "type", "[]P.x", 3, api.ErrSyntax)
	refuses(t, "type", "i8 [", 3, api.ErrSyntax)
	refuses(t, "expr", "a b", 2, api.ErrSyntax)
	refuses(t, "expr", "record", 0, api.ErrSyntax)
	refuses(t, "program", "fn f() {} ;", 10, api.ErrSyntax)
	refuses(t, "program", "a = 1;", 0, api.ErrSyntax)
}

// Each line of the grammar: at each beginning that is made of a stem and few tokens, with each token behind it.
func TestP4_1Grammar(t *testing.T) {
	g := readGrammar(chapter)
	for _, stem := range []string{
		"", "fn f", "fn f(", "fn f(a", "fn f(a i8", "fn f(a i8, b", "fn f()", "fn f() (", "fn f() (i8", "fn f() i8", "fn f() []", "fn f() {}", "fn f() (i8)",
		"record", "record P {", "record P { a", "record P { a i8", "record P { a i8;", "record P { a [", "record P { a [7", "record P { }",
	} {
		goOver(t, g, "program", stem, 2)
	}
	for _, stem := range []string{
		"", "a", "a,", "a, b", "a =", "a = b", "a.b", "a[", "a[b", "a[b]", "a[b] =", "f(", "f()", "f(a", "f(a,", "f().b", "f()[a] = b",
		"var", "var a", "var a,", "var a =", "var a = b", "push", "push(", "push(a", "push(a,", "push(a, b", "push(a, b)",
		"if", "if a", "if a {", "if a { }", "if a { } else", "if a { } else { }", "if a { } else if", "if a { } else if b { }",
		"L:", "L: while", "while a", "while a {", "while a { }", "break", "break L", "continue", "continue L", "return", "return a", "return a,", "trap", "trap 7",
		"for", "for a", "for a = b", "for var", "for var a", "for f()", "for push(a, b)", "for ;", "for ; a", "for ; ;", "for ; ; a", "for ; ; a = b", "for ; ; f()", "for ; ; push(a, b)", "for ; ; { }",
		"switch", "switch a", "switch a {", "switch a { case", "switch a { case -", "switch a { case 7", "switch a { case 7,", "switch a { case 7:", "switch a { case 7: f();", "switch a { case 7: case",
		"switch a { default", "switch a { default:", "switch a { default: f();", "switch a { }", "{", "{ }",
	} {
		goOver(t, g, "program", "fn f() { "+stem, 1)
	}
	goOver(t, g, "program", "fn f() {", 3)
}

func TestP4_2Grammar(t *testing.T) {
	g := readGrammar(chapter)
	goOver(t, g, "expr", "", 3)
	goOver(t, g, "type", "", 5)
	for _, stem := range []string{
		"a || b", "a && b", "a == b", "a < b ||", "a + b", "a + b <", "a * b", "a * b +", "- a", "~", "! !", "- a [", "a . b", "a . b [ c ]",
		"i8", "i32 (", "i64 ( a", "new", "new P", "new P (", "new P ( a", "new P ( a ,", "new P ( a )", "new [", "new [ 7 ]", "len", "len ( a", "len ( a )", "cut", "cut ( a", "cut ( a , b", "cut ( a , b , c", "cut ( a , b , c )",
		"byte ( a", "pop ( a", "( a", "( a )", "f ( a", "f ( a , b", "f ( )", "true", "7i8", `"t"`,
	} {
		goOver(t, g, "expr", stem, 1)
	}
}

// Sources that are nearly programs: a token left out, put in, put in another's place, or two of them turned round.
func TestP4_1NearlyPrograms(t *testing.T) {
	g, m := readGrammar(chapter), maker{rand.New(rand.NewSource(41))}
	tokens := alphabet()
	for range 1500 {
		n := m.program()
		var list []string
		s := source(&n, nil)
		for _, x := range lex.Each(s) {
			list = append(list, s[x.At:x.End])
		}
		if len(list) == 0 || len(list) > 150 {
			continue
		}
		i := m.Intn(len(list))
		switch m.Intn(4) {
		case 0:
			list = slices.Delete(list, i, i+1)
		case 1:
			list = slices.Insert(list, i, tokens[m.Intn(len(tokens))])
		case 2:
			list[i] = tokens[m.Intn(len(tokens))]
		case 3:
			j := m.Intn(len(list))
			list[i], list[j] = list[j], list[i]
		}
		asGrammar(t, g, "program", strings.Join(list, " "))
	}
}

// Kept words are no names, wherever a name is asked for.
func TestP4_1KeptWords(t *testing.T) {
	for _, w := range strings.Fields("record fn var if else while for switch case default break continue return trap new true false i8 i32 i64 bool bytes len cut byte push pop") {
		for _, s := range []string{
			"fn _() {}", "fn f(_ i8) {}", "record _ {}", "fn f() { var _ = 1; }", "fn f() { var a, _ = g(); }", "fn f() { a, _ = g(); }",
			"fn f() { break _; }", "fn f() { continue _; }", "fn f() { a._ = 1; }", "fn f() { return a._; }", "fn f() { g()._ = 1; }",
		} {
			at := strings.Index(s, "_")
			refuses(t, "program", strings.Replace(s, "_", w, 1), at, api.ErrSyntax)
		}
		if n, _, err := Source("record P { " + w + " i8; }"); err != api.ErrSyntax || !isZero(n) {
			t.Errorf("a field %s: %d", w, err)
		}
		if !slices.Contains([]string{"while", "for", "switch"}, w) {
			refuses(t, "program", "fn f() { L: "+w+" a { } }", 12, api.ErrSyntax)
		}
		if !slices.Contains([]string{"i8", "i32", "i64", "bool", "bytes"}, w) {
			refuses(t, "type", w, 0, api.ErrSyntax)
			refuses(t, "program", "fn f() "+w+" { }", 7, api.ErrSyntax)
		} else {
			holds(t, "type", w, "7@0:"+w)
		}
	}
}

// Trees with all their places: of trees made at will, written with blanks, remarks and needless parentheses.
func TestP4_1Places(t *testing.T) {
	m := maker{rand.New(rand.NewSource(4))}
	for i := range 6000 {
		start, n := symbol("program"), m.program()
		switch i % 4 {
		case 1:
			start, n = "expr", m.expr(4)
		case 2:
			start, n = "type", m.typeOf(5)
		}
		s := source(&n, m.Rand)
		got, at, err := readAs(start, s)
		if err != api.OK || at != 0 || !sameAll(got, n) {
			t.Fatalf("%s %s: %s, %d at %d, want %s", start, short(s), tell(got), err, at, tell(n))
		}
		if e := Check(n); e != api.OK {
			t.Fatalf("%s %s: Check: %d", start, short(s), e)
		}
	}
}

// The places of each kind of node, by hand.
func TestP4_1PlacesByHand(t *testing.T) {
	in := func(stmt, want string) {
		t.Helper()
		n, at, err := Source("fn f(){" + stmt + "}")
		if err != api.OK || at != 0 {
			t.Errorf("%q: %d at %d", stmt, err, at)
			return
		}
		shift(&n, -7)
		if kids := n.Kids[0].Kids[2].Kids; len(kids) != 1 || tell(kids[0]) != want {
			t.Errorf("%q: %s, want %s", stmt, tell(n), want)
		}
	}
	in("var a,b=g();", "11@0(25@4:a 25@6:b 45@8:g)")
	in("a,b=g();", "12@3(44@0:a 44@2:b 45@4:g)")
	in("a.x[0]=1;", "12@6(49@3(48@2:x(44@0:a) 40@4) 40@7#1)")
	in("g(1).x=2;", "12@6(48@5:x(45@0:g(40@2#1)) 40@7#2)")
	in("g(1)[2]=3;", "12@7(49@4(45@0:g(40@2#1) 40@5#2) 40@8#3)")
	in(" g();", "13@1(45@1:g)")
	in(" push(a,1);", "13@1(54@1(44@6:a 40@8#1))")
	in("{ {} }", "10@0(10@2)")
	in("if a{}else if b{trap 7;}else{}", "14@0(44@3:a 10@4 14@11(44@14:b 10@15(23@16#7) 10@28))")
	in("L : while a{break L;}", "15@4:L(44@10:a 10@11(20@12:L))")
	in("while a{continue;}", "15@0(44@6:a 10@7(21@8))")
	in("for ; ; {}", "16@0(24@4 24@6 24@8 10@8)")
	in("L:for var i=0;i<3;i=i+1{}", "16@2:L(11@6(25@10:i 40@12) 72@15(44@14:i 40@16#3) 12@19(44@18:i 60@21(44@20:i 40@22#1)) 10@23)")
	in("for g();;g(){}", "16@0(13@4(45@4:g) 24@8 13@9(45@9:g) 10@12)")
	in("L:switch a{case 1,- 2i8:return;return a;default:{}}", "17@2:L(44@9:a 18@11(40@16#1 55@18(40@20:i8#2) 10@23(22@24 22@31(44@38:a))) 19@40(10@47(10@48)))")
	in("switch a{}", "17@0(44@7:a)")
	in("switch a{case 1:case 2:}", "17@0(44@7:a 18@9(40@14#1 10@15) 18@16(40@21#2 10@22))")
	in("switch a{default:}", "17@0(44@7:a 19@9(10@16))")
	in("return a,b;", "22@0(44@7:a 44@9:b)")
	in("trap 255;", "23@0#255")
	holds(t, "program", "fn f( a []P,b i8 )( i8,P ){}", "1@0(4@3:f(5@4(3@6:a(9@8(7@10:P)) 3@12:b(7@14:i8)) 6@18(7@20:i8 7@23:P) 10@26))")
	holds(t, "program", "fn f() bool{}", "1@0(4@3:f(5@4 6@7(7@7:bool) 10@11))")
	holds(t, "program", "fn f() (bool){}", "1@0(4@3:f(5@4 6@7(7@8:bool) 10@13))")
	holds(t, "program", " record P{} record Q{a P;b bytes;}", "1@0(2@8:P 2@19:Q(3@21:a(7@23:P) 3@25:b(7@27:bytes)))")
	holds(t, "expr", " i8(a)", "46@1:i8(44@4:a)")
	holds(t, "expr", " new [3]P(a,1)", "47@1(8@5#3(7@8:P) 44@10:a 40@12#1)")
	holds(t, "expr", " cut(s,0,len(s))", "51@1(44@5:s 40@7 50@9(44@13:s))")
	holds(t, "expr", " byte(pop(a))", "52@1(53@6(44@10:a))")
	holds(t, "expr", ` "a\n" `, "41@1:a\n")
	holds(t, "expr", "true!=!false", "71@4(42@0 57@6(43@7))")
	holds(t, "expr", "~ -a", "56@0(55@2(44@3:a))")
	holds(t, "expr", "18446744073709551615", "40@0#18446744073709551615")
	holds(t, "type", "[007]i8", "8@0#7(7@5:i8)")
}

func shift(n *api.Node, by int) {
	n.At += by
	for i := range n.Kids {
		shift(&n.Kids[i], by)
	}
}

// Signs of two lines and of one line, all pairs: which one takes the middle name.
func TestP4_4Signs(t *testing.T) {
	for ka, a := range betweenSigns {
		for kb, b := range betweenSigns {
			s := "x " + a.sign + " y " + b.sign + " z"
			x, y, z := named(api.XName, "x"), named(api.XName, "y"), named(api.XName, "z")
			if a.tight == b.tight && a.tight == tightRel {
				refuses(t, "expr", s, len("x "+a.sign+" y "), api.ErrSyntax)
				continue
			}
			want := node(kb, node(ka, x, y), z)
			if a.tight < b.tight {
				want = node(ka, x, node(kb, y, z))
			}
			if n, _, err := Expr(s); err != api.OK || !same(n, want) {
				t.Errorf("%s: %s, %d, want %s", s, tell(n), err, tell(want))
			}
		}
	}
	deep, _, err := Expr("a" + strings.Repeat("-a", api.MaxTokens/2-1))
	depth := 0
	for ; deep.Kind == api.XSub; deep = deep.Kids[0] {
		depth++
	}
	if err != api.OK || depth != api.MaxTokens/2-1 {
		t.Errorf("a long row of signs: %d, %d deep", err, depth)
	}
}

func TestP4_4Parentheses(t *testing.T) {
	m := maker{rand.New(rand.NewSource(44))}
	for range 1000 {
		n := m.expr(4)
		s := source(&n, m.Rand)
		got, _, err := Expr("(" + s + "\n)")
		if err != api.OK || !same(got, n) {
			t.Fatalf("(%s): %s, %d, want %s", short(s), tell(got), err, tell(n))
		}
	}
	if n, _, err := Expr("((((a)))) - ((b - (c)))"); err != api.OK || !same(n, node(api.XSub, named(api.XName, "a"), node(api.XSub, named(api.XName, "b"), named(api.XName, "c")))) {
		t.Errorf("parentheses: %s, %d", tell(n), err)
	}
}

// Two programs one behind the other; and blanks put between the tokens.
func TestP4_4TwoPrograms(t *testing.T) {
	m := maker{rand.New(rand.NewSource(45))}
	for range 500 {
		a, b := m.program(), m.program()
		s := source(&a, m.Rand) + "\n" + source(&b, m.Rand)
		n, _, err := Source(s)
		if err != api.OK || !same(n, node(api.NProgram, append(slices.Clone(a.Kids), b.Kids...)...)) {
			t.Fatalf("%s: %s, %d", short(s), tell(n), err)
		}
	}
}

func TestP4_4Blanks(t *testing.T) {
	m := maker{rand.New(rand.NewSource(46))}
	blanks := []string{" ", "\t", "\r", "\n", "   ", " // x\n", "\n//\n"}
	for range 1000 {
		n := m.program()
		s := source(&n, nil)
		var wide strings.Builder
		from := 0
		for _, x := range lex.Each(s) {
			wide.WriteString(s[from:x.At])
			for range m.Intn(3) {
				wide.WriteString(blanks[m.Intn(len(blanks))])
			}
			wide.WriteString(s[x.At:x.End])
			from = x.End
		}
		got, _, err := Source(wide.String())
		if err != api.OK || !same(got, n) {
			t.Fatalf("%s: %s, %d, want %s", short(wide.String()), tell(got), err, tell(n))
		}
	}
}

// Trees that are read have at most MaxNodes nodes, however dense the source.
func TestP4_4Nodes(t *testing.T) {
	for s, nodes := range map[string]int{
		"fn f(){" + strings.Repeat("for;;{}", 6552) + "}":                       5 + 5*6552,
		"fn f(){switch a{" + strings.Repeat("case 1:", 9000) + "}}":             7 + 3*9000,
		"fn f(){" + strings.Repeat("L:switch a{default:}", 3000) + "}":          5 + 4*3000,
		strings.Repeat("fn f(){}", 5461):                                        1 + 4*5461,
		"fn f(){a=b" + strings.Repeat("[c]", 10000) + ";}":                      8 + 2*10000,
		"fn f(){a=b" + strings.Repeat(".c", 16000) + ";}":                       8 + 16000,
		"fn f(){return f(" + strings.Repeat("a,", 16000) + "a);}":               8 + 16000,
		"fn f(){if a{}" + strings.Repeat("else if a{}", 62) + "}":               8 + 62*3,
		"fn f(){" + strings.Repeat("{}", 16300) + "}":                           5 + 16300,
		"fn f(){" + strings.Repeat("{", 63) + strings.Repeat("}", 63) + "}":     5 + 63,
		"fn f(" + strings.Repeat("a i8,", 10000) + "a i8){}":                    5 + 2*10001,
		"record P{" + strings.Repeat("a i8;", 10000) + "}fn f(){return -1,-2;}": 2 + 2*10000 + 4 + 5,
	} {
		n, at, err := Source(s)
		if err != api.OK || count(n) != nodes {
			t.Errorf("%s: %d nodes, %d at %d, want %d", short(s), count(n), err, at, nodes)
		}
		if e := Check(n); e != api.OK {
			t.Errorf("%s: Check: %d", short(s), e)
		}
	}
}

func count(n api.Node) int {
	c := 1
	for _, k := range n.Kids {
		c += count(k)
	}
	return c
}

// What is handed out is the caller's own: no list shares memory with another, no text with the source.
func TestP4_4OwnMemory(t *testing.T) {
	m := maker{rand.New(rand.NewSource(47))}
	for range 300 {
		n := m.program()
		s := source(&n, m.Rand)
		a, _, _ := Source(s)
		b, _, _ := Source(s)
		seen := map[*api.Node]bool{}
		own(t, a, s, seen)
		own(t, b, s, seen)
		spoil(&a)
		if again, _, _ := Source(s); !sameAll(b, n) || !sameAll(again, n) {
			t.Fatalf("%s: an answer hangs on another one", short(s))
		}
	}
}

func own(t *testing.T, n api.Node, s string, seen map[*api.Node]bool) {
	t.Helper()
	if n.Text != "" && s != "" {
		text, from := uintptr(unsafe.Pointer(unsafe.StringData(n.Text))), uintptr(unsafe.Pointer(unsafe.StringData(s)))
		if text >= from && text < from+uintptr(len(s)) {
			t.Fatalf("%s: the text %q lies in the source", short(s), n.Text)
		}
	}
	kids := n.Kids[:cap(n.Kids)]
	for i := range kids {
		if seen[&kids[i]] {
			t.Fatalf("%s: two lists share memory", short(s))
		}
		seen[&kids[i]] = true
	}
	for _, k := range n.Kids {
		own(t, k, s, seen)
	}
}

func spoil(n *api.Node) {
	for i := range n.Kids {
		spoil(&n.Kids[i])
	}
	for i, kids := 0, n.Kids[:cap(n.Kids)]; i < len(kids); i++ {
		kids[i] = api.Node{Kind: 255, Text: "spoilt"}
	}
	n.Text = "spoilt"
}

// Any bytes are answered, as the grammar says.
func FuzzSource(f *testing.F) {
	g, m := readGrammar(chapter), maker{rand.New(rand.NewSource(48))}
	for range 20 {
		n := m.program()
		f.Add(source(&n, m.Rand))
	}
	f.Fuzz(func(t *testing.T, s string) {
		if len(s) > 300 {
			return
		}
		for _, start := range []symbol{"program", "expr", "type"} {
			if _, _, err := readAs(start, s); err != api.ErrNest {
				asGrammar(t, g, start, s)
			}
		}
	})
}
