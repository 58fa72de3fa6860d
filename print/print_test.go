package print

import (
	"fmt"
	"math"
	"slices"
	"strings"
	"testing"
	"unsafe"

	"trammel/api"
	"trammel/lex"
	"trammel/parse"
)

var (
	a     = named(api.XName, "a")
	b     = named(api.XName, "b")
	one   = whole(1, "")
	i8    = named(api.NNamed, "i8")
	block = node(api.NBlock)
	none  = node(api.NNone)
	call  = named(api.XCall, "f")
	push  = node(api.XPush, a, one)
)

// calls are the three that tell texts, with what reads these again.
var calls = []struct {
	name  string
	print func(api.Node) (string, api.Errno)
	read  func(string) (api.Node, int, api.Errno)
}{{"Source", Source, parse.Source}, {"Expr", Expr, parse.Expr}, {"Type", Type, parse.Type}}

const (
	source = iota
	expr
	typ
)

// tell writes a tree for a message: kind:text#number(kids), cut where it is long.
func tell(n api.Node) string {
	s := fmt.Sprint(n.Kind)
	if n.Text != "" {
		s += ":" + n.Text[:min(len(n.Text), 40)]
	}
	if n.N != 0 {
		s += fmt.Sprint("#", n.N)
	}
	var list []string
	for _, k := range n.Kids[:min(len(n.Kids), 20)] {
		list = append(list, tell(k))
	}
	if len(list) > 0 {
		s += "(" + strings.Join(list, " ") + ")"
	}
	return s[:min(len(s), 1000)]
}

// equal: are two trees the same but for places? It knows nothing of Same, and is for trees that calls can go through.
func equal(a, b api.Node) bool {
	return a.Kind == b.Kind && a.Text == b.Text && a.N == b.N && slices.EqualFunc(a.Kids, b.Kids, equal)
}

// reads: is a text read as that tree?
func reads(which int, s string, n api.Node) bool {
	got, _, wrong := calls[which].read(s)
	return wrong == api.OK && equal(got, n)
}

// prints holds a call to the text that is wanted, and this to the tree.
func prints(t *testing.T, which int, n api.Node, want string) {
	t.Helper()
	got, wrong := calls[which].print(n)
	if got != want || wrong != api.OK {
		t.Fatalf("%s of %s: %q, %d, want %q", calls[which].name, tell(n), got, wrong, want)
	}
	if !reads(which, got, n) {
		t.Fatalf("%s of %s: %q is read as another tree", calls[which].name, tell(n), got)
	}
}

func refuses(t *testing.T, which int, n api.Node, want api.Errno) {
	t.Helper()
	if got, wrong := calls[which].print(n); wrong != want || got != "" {
		t.Errorf("%s of %s: %.40q, %d, want %d", calls[which].name, tell(n), got, wrong, want)
	}
}

// printsAs reads a source, and holds its print to the text that is wanted.
func printsAs(t *testing.T, which int, s, want string) {
	t.Helper()
	n, place, wrong := calls[which].read(s)
	if wrong != api.OK {
		t.Fatalf("%q: %d at %d", s, wrong, place)
	}
	prints(t, which, n, want)
}

// body holds the print of a function's statements to lines, which are wanted one deep.
func body(t *testing.T, stmts string, lines ...string) {
	t.Helper()
	want := "fn f() {\n"
	for _, line := range lines {
		want += "\t" + line + "\n"
	}
	printsAs(t, source, "fn f(){"+stmts+"}", want+"}\n")
}

func TestP5_1Examples(t *testing.T) {
	for s, want := range map[string]string{
		"a-(b-c)": "a - (b - c)", "(a-b)-c": "a - b - c", "-(a+b)": "-(a + b)", "(-a).x": "(-a).x",
		"- -a": "--a", "!(a==b)": "!(a == b)", "(a==b)==c": "(a == b) == c", "a&&(b||c)": "a && (b || c)",
		"f( a,1i8 )[0].x": "f(a, 1i8)[0].x", "new [3] P(a)": "new [3]P(a)", `"\x41"`: `"A"`,
	} {
		printsAs(t, expr, s, want)
	}
	printsAs(t, source, "fn f(a i8)i8{return a;}", "fn f(a i8) i8 {\n\treturn a;\n}\n")
	printsAs(t, source, "fn f(){if a{}else if b{}else{g();}}", "fn f() {\n\tif a {\n\t} else if b {\n\t} else {\n\t\tg();\n\t}\n}\n")
	refuses(t, expr, nested(65, a, api.XNeg), api.ErrLimit)
	refuses(t, expr, block, api.ErrTree)
}

// exprs: an expression of each kind.
func exprs() []api.Node {
	list := []api.Node{
		one, whole(7, "i8"), named(api.XText, "t"), node(api.XTrue), node(api.XFalse), b, call, named(api.XCall, "f", a, b), named(api.XConv, "i64", b),
		node(api.XNew, i8), node(api.XNew, node(api.NGrow, i8), a, b), named(api.XField, "x", b), node(api.XAt, b, one), node(api.XLen, b), node(api.XCut, b, a, one), node(api.XByte, b), node(api.XPop, b),
		node(api.XNeg, b), node(api.XNeg, one), node(api.XNot, b), node(api.XFlip, b),
	}
	for kind := api.XAdd; kind <= api.XEither; kind++ {
		list = append(list, node(kind, b, one))
	}
	return list
}

// Each kind of expression as each part of each: it stands in brackets just where it could not be read without them.
func TestP5_1EachInEach(t *testing.T) {
	all, bracketed := 0, 0
	for _, n := range exprs() {
		for i := range n.Kids {
			if n.Kind == api.XNew && i == 0 {
				continue
			}
			with := func(part api.Node) api.Node {
				kids := slices.Clone(n.Kids)
				kids[i] = part
				return api.Node{Kind: n.Kind, Text: n.Text, Kids: kids}
			}
			around, _ := Expr(with(named(api.XName, "hole")))
			for _, part := range exprs() {
				inner, _ := Expr(part)
				want := strings.Replace(around, "hole", inner, 1)
				if all++; !reads(expr, want, with(part)) {
					want = strings.Replace(around, "hole", "("+inner+")", 1)
					bracketed++
				}
				prints(t, expr, with(part), want)
				if told := (plain{}).text(with(part)); told != want {
					t.Fatalf("by the chapter's words %q, want %q", told, want)
				}
			}
		}
	}
	if bracketed < 100 || all-bracketed < 100 {
		t.Errorf("%d of %d in brackets", bracketed, all)
	}
}

// Each two signs between three names, leaning to the left and to the right: one of these, at most, stands without brackets.
func TestP5_1Rows(t *testing.T) {
	x, y, z := named(api.XName, "x"), named(api.XName, "y"), named(api.XName, "z")
	for k := api.XAdd; k <= api.XEither; k++ {
		for l := api.XAdd; l <= api.XEither; l++ {
			first, second := strings.Trim(forms[k].text, "P0123456"), strings.Trim(forms[l].text, "P0123456")
			left, right := node(l, node(k, x, y), z), node(k, x, node(l, y, z))
			bare, wantLeft, wantRight := "x"+first+"y"+second+"z", "(x"+first+"y)"+second+"z", "x"+first+"(y"+second+"z)"
			if reads(expr, bare, left) {
				wantLeft = bare
			}
			if reads(expr, bare, right) {
				wantRight = bare
			}
			prints(t, expr, left, wantLeft)
			prints(t, expr, right, wantRight)
		}
	}
}

// Long rows of one sign: to the left without brackets (but of the line 2), to the right with them.
func TestP5_1LongRows(t *testing.T) {
	for kind := api.XAdd; kind <= api.XEither; kind++ {
		sign := strings.Trim(forms[kind].text, "P0123456")
		left := a
		for range 60 {
			left = node(kind, left, a)
		}
		want := "a" + strings.Repeat(sign+"a", 60)
		if forms[kind].line == 2 {
			want = strings.Repeat("(", 59) + "a" + strings.Repeat(sign+"a)", 59) + sign + "a"
		}
		prints(t, expr, left, want)
		prints(t, expr, nested(60, a, kind, a), strings.Repeat("a"+sign+"(", 59)+"a"+sign+"a"+strings.Repeat(")", 59))
	}
}

// Parts of a unary, of a field and of a place.
func TestP5_1Tight(t *testing.T) {
	for s, want := range map[string]string{
		"-(-(~(!a)))": "--~!a", "-(a)": "-a", "-(a.x)": "-a.x", "(-a).x": "(-a).x", "-(a[1])": "-a[1]", "(-a)[1]": "(-a)[1]", "(~-a)[-1].x": "(~-a)[-1].x",
		"-(a*b)": "-(a * b)", "(-a)*b": "-a * b", "a*(-b)": "a * -b", "a-(-b)": "a - -b", "-(f(a))": "-f(a)", "!(true)": "!true", "~(1i8)": "~1i8", "-(1)": "-1", "!(a||b)": "!(a || b)", "!(!(a&&b))": "!!(a && b)",
		"(a+b).x": "(a + b).x", "(a+b)[c+d]": "(a + b)[c + d]", "a[(b||c)]": "a[b || c]", "((a).x).y": "a.x.y", "((a[1])[2]).x": "a[1][2].x", "(f()).x": "f().x", "(new P()).x": "new P().x", `("t")[0]`: `"t"[0]`, "(1).x": "1.x", "(1i64)[1]": "1i64[1]", "(true).x": "true.x", "(len(a))[1]": "len(a)[1]", "(i8(a)).x": "i8(a).x", "(pop(a))[a[a]]": "pop(a)[a[a]]",
	} {
		printsAs(t, expr, s, want)
	}
}

func TestP5_1Numbers(t *testing.T) {
	for _, n := range []uint64{0, 1, 9, 10, 127, 128, 255, 256, math.MaxUint32, math.MaxUint32 + 1, math.MaxInt64, math.MaxInt64 + 1, math.MaxUint64} {
		digits := fmt.Sprint(n)
		prints(t, expr, whole(n, ""), digits)
		prints(t, expr, whole(n, "i64"), digits+"i64")
		prints(t, typ, api.Node{Kind: api.NFixed, N: n, Kids: []api.Node{i8}}, "["+digits+"]i8")
		if n <= math.MaxUint32 {
			prints(t, expr, whole(n, "i32"), digits+"i32")
		} else {
			refuses(t, expr, whole(n, "i32"), api.ErrTree)
		}
		if n <= math.MaxUint8 {
			prints(t, expr, whole(n, "i8"), digits+"i8")
			body(t, "trap "+digits+";", "trap "+digits+";")
		} else {
			refuses(t, expr, whole(n, "i8"), api.ErrTree)
		}
	}
	printsAs(t, expr, "007", "7")
	printsAs(t, expr, "000i32", "0i32")
	printsAs(t, expr, "18446744073709551615", "18446744073709551615")
}

func TestP5_1Texts(t *testing.T) {
	for c := range 256 {
		for _, text := range []string{string([]byte{byte(c)}), "a" + string([]byte{byte(c)}) + "1", strings.Repeat(string([]byte{byte(c)}), 3)} {
			prints(t, expr, named(api.XText, text), lex.Quote(text))
		}
	}
	for text, want := range map[string]string{"": `""`, "a\"\\\n\t\r": `"a\"\\\n\t\r"`, "\x00\x1f\x7f": `"\x00\x1f\x7f"`, "\xc8\xff": "\"\xc8\xff\"", "// x": `"// x"`, "x)": `"x)"`} {
		prints(t, expr, named(api.XText, text), want)
		prints(t, expr, named(api.XField, "x", named(api.XText, text)), want+".x")
	}
}

// Calls, and what is written like one, with no, one and several parts; parts in lists stand without brackets.
func TestP5_1Calls(t *testing.T) {
	for s, want := range map[string]string{
		"f( )": "f()", "f(a)": "f(a)", "f(a,b,c)": "f(a, b, c)", "f((a||b),(-c),(g(1,2)))": "f(a || b, -c, g(1, 2))",
		"i8(a)": "i8(a)", "i32((a+b))": "i32(a + b)", "i64(i8(1))": "i64(i8(1))", "len((a||b))": "len(a || b)", "byte(1+2)": "byte(1 + 2)", "pop((a).x)": "pop(a.x)", "cut((a||b),(c||d),(1))": "cut(a || b, c || d, 1)",
		"new P()": "new P()", "new i8(1)": "new i8(1)", "new [] bool(a)": "new []bool(a)", "new[2][ ]P((a||b),-1,c)": "new [2][]P(a || b, -1, c)",
	} {
		printsAs(t, expr, s, want)
	}
	body(t, "push((a),(b||c));f((a));f();f(a,b);", "push(a, b || c);", "f(a);", "f();", "f(a, b);")
}

func TestP5_1Types(t *testing.T) {
	for s, want := range map[string]string{
		"i8": "i8", "i32": "i32", " i64 ": "i64", "bool": "bool", "bytes": "bytes", "P": "P", "_a9": "_a9",
		"[ 0 ] i8": "[0]i8", "[007]P": "[7]P", "[ ]bytes": "[]bytes", "[4] [ ] [2] [] P": "[4][][2][]P", "[][]bool": "[][]bool",
	} {
		printsAs(t, typ, s, want)
	}
	prints(t, typ, nested(64, i8, api.NGrow), strings.Repeat("[]", 64)+"i8")
}

func TestP5_1Plain(t *testing.T) {
	body(t, "")
	body(t, "var a=1;var a,b=f();var a,b,c=(1||2);", "var a = 1;", "var a, b = f();", "var a, b, c = 1 || 2;")
	body(t, "a=1;a,b,c=f();a.x=1;a[1].x[2]=b;f(a)[0]=(1);f().x=2;", "a = 1;", "a, b, c = f();", "a.x = 1;", "a[1].x[2] = b;", "f(a)[0] = 1;", "f().x = 2;")
	body(t, "break;break L;continue;continue L;", "break;", "break L;", "continue;", "continue L;")
	body(t, "return;return(1);return a||b,-1,f();", "return;", "return 1;", "return a || b, -1, f();")
	body(t, "trap 000;trap 255;trap 7;", "trap 0;", "trap 255;", "trap 7;")
}

func TestP5_1Blocks(t *testing.T) {
	body(t, "{}", "{", "}")
	body(t, "{a=1;}", "{", "\ta = 1;", "}")
	body(t, "{{{a=1;}{}}b=2;}c=3;", "{", "\t{", "\t\t{", "\t\t\ta = 1;", "\t\t}", "\t\t{", "\t\t}", "\t}", "\tb = 2;", "}", "c = 3;")
	for deep := 1; deep <= 63; deep++ {
		var lines []string
		for i := range deep {
			lines = append(lines, strings.Repeat("\t", i)+"{")
		}
		lines = append(lines, strings.Repeat("\t", deep)+"a = 1;")
		for i := range deep {
			lines = append(lines, strings.Repeat("\t", deep-1-i)+"}")
		}
		body(t, strings.Repeat("{", deep)+"a=1;"+strings.Repeat("}", deep), lines...)
	}
}

func TestP5_1If(t *testing.T) {
	body(t, "if(a){}", "if a {", "}")
	body(t, "if a||b{c=1;d=2;}", "if a || b {", "\tc = 1;", "\td = 2;", "}")
	body(t, "if a{}else{}", "if a {", "} else {", "}")
	body(t, "if a{b=1;}else{c=2;}d=3;", "if a {", "\tb = 1;", "} else {", "\tc = 2;", "}", "d = 3;")
	body(t, "if a{}else if b{}", "if a {", "} else if b {", "}")
	body(t, "if a{x=1;}else if b{x=2;}else if(c){x=3;}else{x=4;}", "if a {", "\tx = 1;", "} else if b {", "\tx = 2;", "} else if c {", "\tx = 3;", "} else {", "\tx = 4;", "}")
	body(t, "if a{if b{}else{c=1;}}else{if d{}}", "if a {", "\tif b {", "\t} else {", "\t\tc = 1;", "\t}", "} else {", "\tif d {", "\t}", "}")
	body(t, "{if a{}else if b{{}}else{{c=1;}}}", "{", "\tif a {", "\t} else if b {", "\t\t{", "\t\t}", "\t} else {", "\t\t{", "\t\t\tc = 1;", "\t\t}", "\t}", "}")
	rest := strings.Repeat("else if a{}", 62)
	var lines []string
	for range 62 {
		lines = append(lines, "} else if a {")
	}
	body(t, "if a{}"+rest, slices.Concat([]string{"if a {"}, lines, []string{"}"})...)
}

func TestP5_1Loops(t *testing.T) {
	body(t, "while(a){}", "while a {", "}")
	body(t, "L:while a||b{c=1;{while d{}}}", "L: while a || b {", "\tc = 1;", "\t{", "\t\twhile d {", "\t\t}", "\t}", "}")
	body(t, "for;;{}", "for ; ;  {", "}")
	body(t, "L:for;;{a=1;}", "L: for ; ;  {", "\ta = 1;", "}")
	body(t, "for var i=0;;{}", "for var i = 0; ;  {", "}")
	body(t, "for var i,j=f();;{}", "for var i, j = f(); ;  {", "}")
	body(t, "for i=0;;{}", "for i = 0; ;  {", "}")
	body(t, "for a.x[1]=0;;{}", "for a.x[1] = 0; ;  {", "}")
	body(t, "for f();;{}", "for f(); ;  {", "}")
	body(t, "for push(a,1);;{}", "for push(a, 1); ;  {", "}")
	body(t, "for;(a<b);{}", "for ; a < b;  {", "}")
	body(t, "for;;a,b=f(){}", "for ; ; a, b = f() {", "}")
	body(t, "for;;f(a){}", "for ; ; f(a) {", "}")
	body(t, "for;;push(a,b){}", "for ; ; push(a, b) {", "}")
	body(t, "for;a;a=1{}", "for ; a; a = 1 {", "}")
	body(t, "for a=1;;a=2{}", "for a = 1; ; a = 2 {", "}")
	body(t, "for a=1;b;{}", "for a = 1; b;  {", "}")
	body(t, "x:for var i=0;i<3;i=i+1{continue x;}", "x: for var i = 0; i < 3; i = i + 1 {", "\tcontinue x;", "}")
}

func TestP5_1Switch(t *testing.T) {
	body(t, "switch(a){}", "switch a {", "}")
	body(t, "L:switch a||b{}", "L: switch a || b {", "}")
	body(t, "switch a{default:}", "switch a {", "default:", "}")
	body(t, "switch a{case 1:}", "switch a {", "case 1:", "}")
	body(t, "switch a{case 1,-2i8,- 0,18446744073709551615:b=1;c=2;case 007:case 4i32:{}default:{d=3;}break;}e=4;",
		"switch a {", "case 1, -2i8, -0, 18446744073709551615:", "\tb = 1;", "\tc = 2;", "case 7:", "case 4i32:", "\t{", "\t}", "default:", "\t{", "\t\td = 3;", "\t}", "\tbreak;", "}", "e = 4;")
	body(t, "L:switch a{case 1:switch b{case 2:c=1;default:if d{e=1;}}}", "L: switch a {", "case 1:", "\tswitch b {", "\tcase 2:", "\t\tc = 1;", "\tdefault:", "\t\tif d {", "\t\t\te = 1;", "\t\t}", "\t}", "}")
	body(t, "{while a{switch b{case 1:return;}}}", "{", "\twhile a {", "\t\tswitch b {", "\t\tcase 1:", "\t\t\treturn;", "\t\t}", "\t}", "}")
}

func TestP5_1Programs(t *testing.T) {
	for s, want := range map[string]string{
		"": "", " // nothing": "",
		"record P{}":                        "record P {\n}\n",
		"record P{x i8;}":                   "record P {\n\tx i8;\n}\n",
		"record P{x i8;y[ 3 ][]P;z bytes;}": "record P {\n\tx i8;\n\ty [3][]P;\n\tz bytes;\n}\n",
		"fn f(){}":                          "fn f() {\n}\n",
		"fn f(a i8){}":                      "fn f(a i8) {\n}\n",
		"fn f(a i8,b[]P,c bool){}":          "fn f(a i8, b []P, c bool) {\n}\n",
		"fn f()i8{}":                        "fn f() i8 {\n}\n",
		"fn f()(i8){}":                      "fn f() i8 {\n}\n",
		"fn f()([4]P){}":                    "fn f() [4]P {\n}\n",
		"fn f()(i8,P){}":                    "fn f() (i8, P) {\n}\n",
		"fn f(a i8,b P)(i8,[]P,[2]i64){return a,b,c;}":                        "fn f(a i8, b P) (i8, []P, [2]i64) {\n\treturn a, b, c;\n}\n",
		"record P{x i8;}fn f(){a=1;}record Q{}fn g(){}fn f(){}record P{x P;}": "record P {\n\tx i8;\n}\nfn f() {\n\ta = 1;\n}\nrecord Q {\n}\nfn g() {\n}\nfn f() {\n}\nrecord P {\n\tx P;\n}\n",
	} {
		printsAs(t, source, s, want)
	}
}

// Trees made at will have the text that the chapter's words tell.
func TestP5_1AtWill(t *testing.T) {
	m := newMaker(51)
	for range 4000 {
		n := m.program()
		prints(t, source, n, plain{}.program(n))
		n = m.expr(5)
		prints(t, expr, n, plain{}.text(n))
		n = m.typeOf(6)
		prints(t, typ, n, plain{}.text(n))
	}
}

// Trees that may not be, ahead of what sort they are of.
func TestP5_1MayNotBe(t *testing.T) {
	function := func(stmt api.Node) api.Node {
		return node(api.NProgram, named(api.NFunc, "f", node(api.NParams), node(api.NTypes), node(api.NBlock, stmt)))
	}
	for name, n := range map[string]api.Node{
		"no kind": {}, "kind 26": {Kind: 26}, "kind 58": {Kind: 58}, "kind 78": node(78, a, a), "kind 255": {Kind: 255}, "a kept name": named(api.XName, "while"), "no name": node(api.XName), "a name with a blank": named(api.XName, "a b"), "a sum of one": node(api.XAdd, a), "a sum of three": node(api.XAdd, a, a, a), "a sum of a type": node(api.XAdd, a, i8),
		"256i8": whole(256, "i8"), "i16": whole(1, "i16"), "a true with a text": named(api.XTrue, "x"), "a name with a number": {Kind: api.XName, Text: "a", N: 1}, "a name with a Kid": named(api.XName, "a", a), "a conv to bool": named(api.XConv, "bool", a), "a new of nothing": node(api.XNew), "a new of an expr": node(api.XNew, a), "a push alone": push, "a push as a part": node(api.XNeg, push), "a cut of two": node(api.XCut, a, a),
		"a type of a kept name": named(api.NNamed, "if"), "an array of nothing": node(api.NGrow), "an array of an expr": node(api.NGrow, a), "a growing array with a number": {Kind: api.NGrow, N: 1, Kids: []api.Node{i8}},
		"a program of a block": node(api.NProgram, block), "a program of a program": node(api.NProgram, node(api.NProgram)), "a function of nothing": node(api.NProgram, named(api.NFunc, "f")), "a field alone": named(api.NField, "x", i8), "a function alone": function(block).Kids[0], "a word alone": named(api.NWord, "a"), "a none alone": none, "a case alone": node(api.NCase, one, block),
		"a sum put to": function(node(api.NSet, node(api.XAdd, a, a), a)), "a field of a sum put to": function(node(api.NSet, named(api.XField, "x", node(api.XAdd, a, a)), a)), "a case of a name": function(node(api.NSwitch, a, node(api.NCase, a, block))), "trap 256": function(api.Node{Kind: api.NTrap, N: 256}), "a default first": function(node(api.NSwitch, a, node(api.NDefault, block), node(api.NCase, one, block))), "a done sum": function(node(api.NDo, node(api.XAdd, a, a))), "a value of a none": function(node(api.NReturn, none)),
	} {
		if wrong := parse.Check(n); wrong != api.ErrTree {
			t.Fatalf("%s: Check: %d", name, wrong)
		}
		for which := range calls {
			refuses(t, which, n, api.ErrTree)
		}
	}
}

// Trees that may be, of another sort than what is asked for.
func TestP5_1OtherSort(t *testing.T) {
	stmts := []api.Node{block, node(api.NVar, named(api.NWord, "a"), one), node(api.NSet, a, one), node(api.NDo, call), node(api.NDo, push), node(api.NIf, a, block), node(api.NWhile, a, block), node(api.NFor, none, none, none, block), node(api.NSwitch, a), node(api.NBreak), node(api.NContinue), node(api.NReturn), node(api.NTrap)}
	sorts := [][]api.Node{source: {node(api.NProgram), node(api.NProgram, named(api.NRecord, "P"))}, expr: exprs(), typ: {i8, named(api.NNamed, "P"), node(api.NGrow, i8), {Kind: api.NFixed, N: 3, Kids: []api.Node{i8}}}, stmts}
	for sort, list := range sorts {
		for _, n := range list {
			if wrong := parse.Check(n); wrong != api.OK {
				t.Fatalf("Check of %s: %d", tell(n), wrong)
			}
			for which := range calls {
				if which != sort {
					refuses(t, which, n, api.ErrTree)
				} else if _, wrong := calls[which].print(n); wrong != api.OK {
					t.Errorf("%s of %s: %d", calls[which].name, tell(n), wrong)
				}
			}
		}
	}
	refuses(t, source, nested(99, a, api.XNeg), api.ErrTree) // ahead of what would be refused
	refuses(t, typ, named(api.XName, strings.Repeat("a", api.MaxSource+1)), api.ErrTree)
	refuses(t, expr, nested(99, i8, api.NGrow), api.ErrTree)
}

// inFunction tells the program of one function with these statements.
func inFunction(stmts ...api.Node) api.Node {
	return node(api.NProgram, named(api.NFunc, "f", node(api.NParams), node(api.NTypes), node(api.NBlock, stmts...)))
}

// Texts that are too deep: MaxNest, and one more; brackets that are printed count.
func TestP5_1TooDeep(t *testing.T) {
	edge := func(which int, deepest int, tree func(int) api.Node) {
		t.Helper()
		if _, wrong := calls[which].print(tree(deepest)); wrong != api.OK {
			t.Errorf("%s: %d deep: %d", calls[which].name, deepest, wrong)
		}
		refuses(t, which, tree(deepest+1), api.ErrLimit)
		refuses(t, which, tree(5000), api.ErrLimit)
	}
	for _, kind := range []uint8{api.XNeg, api.XNot, api.XFlip, api.XLen, api.XByte, api.XPop} {
		edge(expr, 64, func(deep int) api.Node { return nested(deep, a, kind) })
	}
	for _, kind := range []uint8{api.XSub, api.XMul, api.XBoth, api.XEither, api.XEq} {
		edge(expr, 65, func(deep int) api.Node { return nested(deep, a, kind, a) })
	}
	edge(expr, 64, func(deep int) api.Node { return nested(deep, a, api.XAt, a) })
	edge(expr, 64, func(deep int) api.Node { return node(api.XNew, nested(deep, i8, api.NGrow)) })
	edge(typ, 64, func(deep int) api.Node { return nested(deep, i8, api.NGrow) })
	edge(source, 63, func(deep int) api.Node { return inFunction(nested(deep, block, api.NBlock).Kids...) })
	edge(source, 63, func(deep int) api.Node {
		return inFunction(nested(deep, node(api.NIf, a, block), api.NIf, a, block).Kids[2])
	})
	edge(source, 63, func(deep int) api.Node { return inFunction(node(api.NReturn, nested(deep, a, api.XNeg))) })
}

// Texts that are too long: MaxSource bytes, and one more.
func TestP5_1TooLong(t *testing.T) {
	long := strings.Repeat("a", api.MaxSource)
	prints(t, expr, named(api.XName, long), long)
	refuses(t, expr, named(api.XName, long+"a"), api.ErrLimit)
	prints(t, typ, named(api.NNamed, long), long)
	refuses(t, typ, named(api.NNamed, long+"a"), api.ErrLimit)
	prints(t, expr, named(api.XText, long[2:]), `"`+long[2:]+`"`)
	refuses(t, expr, named(api.XText, long[1:]), api.ErrLimit)
	refuses(t, expr, named(api.XText, long+long), api.ErrLimit)
	quotes := strings.Repeat(`"`, api.MaxSource/2-1)
	prints(t, expr, named(api.XText, quotes), `"`+strings.Repeat(`\"`, api.MaxSource/2-1)+`"`)
	refuses(t, expr, named(api.XText, quotes+"a"), api.ErrLimit)
	refuses(t, expr, named(api.XText, strings.Repeat("\x00", api.MaxSource/4)), api.ErrLimit)
	prints(t, expr, node(api.XNeg, named(api.XName, long[1:])), "-"+long[1:])
	refuses(t, expr, node(api.XNeg, named(api.XName, long)), api.ErrLimit)
	prints(t, source, node(api.NProgram, named(api.NRecord, long[:api.MaxSource-len("record  {\n}\n")])), "record "+long[:api.MaxSource-len("record  {\n}\n")]+" {\n}\n")
	refuses(t, source, node(api.NProgram, named(api.NRecord, long[:api.MaxSource-len("record  {\n}\n")+1])), api.ErrLimit)
	for short := range 3 { // whatever of it is the first to find no room
		refuses(t, expr, named(api.XCall, "f", named(api.XName, long[short:])), api.ErrLimit)
	}
	prints(t, expr, named(api.XCall, "f", named(api.XName, long[3:])), "f("+long[3:]+")")
	refuses(t, expr, named(api.XCall, "f", named(api.XName, long), named(api.XText, "t"), one), api.ErrLimit) // these would find room
}

// Texts of too many tokens: MaxTokens, and one more.
func TestP5_1TooManyTokens(t *testing.T) {
	args := func(count int) api.Node { // f ( ) and a comma between each two
		return named(api.XCall, "f", slices.Repeat([]api.Node{a}, count)...)
	}
	count := (api.MaxTokens - 2) / 2
	prints(t, expr, args(count), "f("+strings.Repeat("a, ", count-1)+"a)")
	refuses(t, expr, node(api.XNeg, args(count)), api.ErrLimit)
	refuses(t, expr, args(count+1), api.ErrLimit)
	left := a
	for range api.MaxTokens/2 - 1 {
		left = node(api.XAdd, left, a)
	}
	prints(t, expr, left, "a"+strings.Repeat(" + a", api.MaxTokens/2-1))
	refuses(t, expr, node(api.XAdd, left, a), api.ErrLimit)
}

// MaxNodes nodes, and one more, which comes first; of trees whose text would be gigabytes it is told soon that they are refused.
func TestP5_1Nodes(t *testing.T) {
	wide := func(kids int, kid api.Node) api.Node {
		return named(api.XCall, "f", slices.Repeat([]api.Node{kid}, kids)...)
	}
	for which := range calls {
		refuses(t, which, wide(api.MaxNodes, a), api.ErrLimit)
		refuses(t, which, wide(api.MaxNodes, none), api.ErrLimit)
		refuses(t, which, wide(api.MaxNodes-1, none), api.ErrTree)
		refuses(t, which, api.Node{Kids: make([]api.Node, api.MaxNodes)}, api.ErrLimit)
	}
	refuses(t, expr, wide(api.MaxNodes-1, a), api.ErrLimit)
	refuses(t, source, wide(api.MaxNodes-1, a), api.ErrTree)
	refuses(t, expr, nested(api.MaxNodes-1, a, api.XNeg), api.ErrLimit)
	refuses(t, source, nested(api.MaxNodes-1, a, api.XNeg), api.ErrTree)
	refuses(t, source, nested(api.MaxNodes, a, api.XNeg), api.ErrLimit)
	refuses(t, expr, nested(api.MaxNodes/2-1, a, api.XSub, a), api.ErrLimit)
	refuses(t, typ, nested(api.MaxNodes-1, i8, api.NGrow), api.ErrLimit)
	refuses(t, source, inFunction(nested(api.MaxNodes-6, block, api.NBlock)), api.ErrLimit)
	refuses(t, source, inFunction(nested(api.MaxNodes/3-3, node(api.NIf, a, block), api.NIf, a, block)), api.ErrLimit)
	refuses(t, source, inFunction(nested(api.MaxNodes/3-3, block, api.NBlock, block, block)), api.ErrLimit)
	refuses(t, expr, wide(api.MaxNodes-1, named(api.XText, strings.Repeat("\x00", api.MaxSource))), api.ErrLimit)
	loop := node(api.XNeg, a)
	loop.Kids[0] = loop
	refuses(t, expr, loop, api.ErrLimit)
}

// What is handed in stays as it is, what lies behind its lists too; places count for nothing; what is told is new memory.
func TestP5_1Unchanged(t *testing.T) {
	kids := []api.Node{a, one, {Kind: 77, Text: "behind"}, {Kind: 78}}
	for _, kind := range []uint8{api.XAdd, api.NSet, api.NReturn} {
		before := slices.Clone(kids)
		n := node(kind, kids[:2]...)
		if kind != api.XAdd {
			n = inFunction(n)
		}
		Source(n)
		Expr(n)
		Same(n, n)
		if !slices.EqualFunc(before, kids, equal) {
			t.Errorf("a node of the kind %d is changed: %s", kind, tell(node(0, kids...)))
		}
	}
	name := strings.Repeat("name", 20)
	for _, n := range []api.Node{named(api.XName, name), named(api.NNamed, name)} {
		for _, which := range []int{expr, typ} {
			if got, _ := calls[which].print(n); got != "" && unsafe.StringData(got) == unsafe.StringData(name) {
				t.Errorf("%s of %s: what is told is what was handed in", calls[which].name, tell(n))
			}
		}
	}
	m := newMaker(52)
	for range 300 {
		n := m.program()
		want, _ := Source(n)
		m.move(&n)
		prints(t, source, n, want)
		n.Kids = emptied(n.Kids)
		prints(t, source, n, want)
	}
}

// move puts all nodes of a tree somewhere else.
func (m maker) move(n *api.Node) {
	n.At = m.Intn(100) - 50
	for i := range n.Kids {
		m.move(&n.Kids[i])
	}
}

// emptied tells nodes with an empty list of Kids wherever they had none, and none where they had an empty one.
func emptied(list []api.Node) []api.Node {
	if list == nil {
		return []api.Node{}
	}
	var out []api.Node
	for _, n := range list {
		n.Kids = emptied(n.Kids)
		out = append(out, n)
	}
	return out
}
