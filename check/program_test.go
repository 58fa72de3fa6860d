package check

import (
	"fmt"
	"slices"
	"strings"
	"testing"

	"trammel/api"
	"trammel/parse"
)

// head is what stands ahead of the statements in most tests: the types are 16 P, 17 E, 18 []i64, 19 [3]i8; the functions' places
// 0 none, 1 one, 2 two, 3 take, 4 f; the slots of f 0 to 7.
const head = `record P { x i8; q P; } record E { }
fn none() { } fn one() i64 { return 1; } fn two() (i8, bool) { return 1i8, true; } fn take(a i8, b bytes) bool { return true; }
fn f(a i8, b []i64, t bytes, p P, o bool, n i64, i i32, d [3]i8) i64 { `

// body holds the statements of f to be such terms.
func body(t *testing.T, stmts, want string) {
	t.Helper()
	p, place, wrong := Program(read(t, head+stmts+" }"))
	if wrong != api.OK {
		t.Errorf("%s: %d at %d of them", stmts, wrong, place-len(head))
		return
	}
	if got := tellAll(p.Funcs[4].Body.Kids); got != want || p.Funcs[4].Body.Op != api.SBlock {
		t.Errorf("%s\n     %s\nwant %s", stmts, got, want)
	}
	if wrong := Valid(p); wrong != api.OK {
		t.Errorf("%s: Valid: %d", stmts, wrong)
	}
}

// bad holds the statements of f to be refused so, at the place of the mark in them.
func bad(t *testing.T, wrong api.Errno, marked ...string) {
	t.Helper()
	for _, stmts := range marked {
		refused(t, head+stmts+" }", wrong)
	}
}

func TestP8_1Examples(t *testing.T) {
	ours := "fn f(a i8, b []i64) i64 { "
	for s, want := range map[string]string{
		"var c = b[0]; return c + 1;": "SBlock(SPut#2(XAt:3(XName:16#1 XInt:3)) SReturn(XAdd:3(XName:3#2 XInt:3#1)))",
		"return i64(a);":              "SBlock(SReturn(XConv:3(XName:1)))",
	} {
		if got := tell(made(t, ours+s+" }").Funcs[0].Body); got != want {
			t.Errorf("%s: %s, want %s", s, got, want)
		}
	}
	for marked, wrong := range map[string]api.Errno{
		"§return a;": api.ErrArgs, "§return 1, 2;": api.ErrArgs,
		"a §= 300i32;": api.ErrOperand, "b§[a] = 1;": api.ErrOperand, "a = §x;": api.ErrName,
		"var a = 1; var §a = 2;": api.ErrTwice,
		"§if 1 { }":              api.ErrOperand, "§break;": api.ErrLabel, "§g();": api.ErrName,
		"switch a { case 255, §-1: }":          api.ErrCase,
		"L: while true { L: §while true { } }": api.ErrTwice,
		"§push(b, a);":                         api.ErrOperand,
	} {
		refused(t, ours+marked+" }", wrong)
	}
	for _, s := range []string{"a + 1;", "var x = push;", "\"a\"[0] = 1;"} {
		if _, _, wrong := parse.Source(ours + s + " }"); wrong != api.ErrSyntax {
			t.Errorf("%s: %d", s, wrong)
		}
	}
	// those of DOC.md
	refused(t, "fn f() { §return 1; }", api.ErrArgs)
	made(t, "fn f() i8 { }") // that its end can be come to is layer 9's to tell
	made(t, "")
}

// partNames are parameters of f, one of each kind of type, and what is like it but another type.
var partNames = []string{"a", "i", "n", "o", "t", "p", "e", "d", "d2", "b", "c"}

const partHead = "record P { x i8; } record E { } fn f(a i8, i i32, n i64, o bool, t bytes, p P, e E, d [3]i8, d2 [2]P, b []i64, c []bytes) { "

// Each row of the table of expressions, with parts of every type: what the row tells is taken, with the type that it tells, all
// else is an ErrOperand at the place of the sign, word or [.
func TestP8_1Expressions(t *testing.T) {
	forms := map[uint8]string{
		api.XConv: "§i8(#)", api.XAt: "#§[#]", api.XLen: "§len(#)", api.XCut: "§cut(#, #, #)", api.XByte: "§byte(#)", api.XPop: "§pop(#)",
		api.XNeg: "§-#", api.XNot: "§~#", api.XFlip: "§!#",
		api.XAdd: "# §+ #", api.XSub: "# §- #", api.XMul: "# §* #", api.XDiv: "# §/ #", api.XRem: "# §% #", api.XAnd: "# §& #", api.XOr: "# §| #",
		api.XXor: "# §^ #", api.XShl: "# §<< #", api.XShr: "# §>> #", api.XEq: "# §== #", api.XNe: "# §!= #", api.XLt: "# §< #", api.XLe: "# §<= #",
		api.XGt: "# §> #", api.XGe: "# §>= #", api.XBoth: "# §&& #", api.XEither: "# §|| #",
	}
	types := made(t, partHead+"}")
	taken := 0
	for op, form := range forms {
		count := strings.Count(form, "#")
		for number := range pow(len(partNames), count) {
			s, parts := form, []int(nil)
			for range count {
				at := number % len(partNames)
				number /= len(partNames)
				s = strings.Replace(s, "#", partNames[at], 1)
				parts = append(parts, types.Funcs[0].Params[at])
			}
			typ := plainType(types.Types, op, api.I8, parts...)
			if typ == 0 {
				refused(t, partHead+"var x = "+s+"; }", api.ErrOperand)
				continue
			}
			taken++
			p := made(t, partHead+"var x = "+strings.Replace(s, "§", "", 1)+"; }")
			v := p.Funcs[0].Body.Kids[0].Kids[0]
			if v.Op != op || v.Type != typ || v.N != 0 || v.Text != "" || !slices.Equal(typesIn(v.Kids), parts) || p.Funcs[0].Slots[11] != typ {
				t.Errorf("%s: %s, want the type %d", s, tell(v), typ)
			}
		}
	}
	if taken != 3+5+5+1+1+2+3+3+1+4+9*3+2*5+4*3+2 {
		t.Errorf("%d are taken", taken)
	}
}

func pow(n, times int) int {
	product := 1
	for range times {
		product *= n
	}
	return product
}

// A few of them as they stand in the chapter, not by the table that the test has in common with the second reading.
func TestP8_1ExpressionsByHand(t *testing.T) {
	body(t, "a = -a; a = ~a; o = !o;", "SPut(XNeg:1(XName:1)) SPut(XNot:1(XName:1)) SPut#4(XFlip:4(XName:4#4))")
	body(t, "t = t + t; n = n % n; i = i << i;", "SPut#2(XAdd:5(XName:5#2 XName:5#2)) SPut#5(XRem:3(XName:3#5 XName:3#5)) SPut#6(XShl:2(XName:2#6 XName:2#6))")
	body(t, "o = t == t; o = o != o; o = a >= a; o = o && o || o;", "SPut#4(XEq:4(XName:5#2 XName:5#2)) SPut#4(XNe:4(XName:4#4 XName:4#4)) SPut#4(XGe:4(XName:1 XName:1)) SPut#4(XEither:4(XBoth:4(XName:4#4 XName:4#4) XName:4#4))")
	body(t, "i = t[n]; n = b[n]; a = d[n];", "SPut#6(XAt:2(XName:5#2 XName:3#5)) SPut#5(XAt:3(XName:18#1 XName:3#5)) SPut(XAt:1(XName:19#7 XName:3#5))")
	body(t, "n = len(t); n = len(b); n = len(d); n = pop(b);", "SPut#5(XLen:3(XName:5#2)) SPut#5(XLen:3(XName:18#1)) SPut#5(XLen:3(XName:19#7)) SPut#5(XPop:3(XName:18#1))")
	body(t, "t = cut(t, 1, n); t = byte(i); n = i64(a); i = i32(n); a = i8(a);", "SPut#2(XCut:5(XName:5#2 XInt:3#1 XName:3#5)) SPut#2(XByte:5(XName:2#6)) SPut#5(XConv:3(XName:1)) SPut#6(XConv:2(XName:3#5)) SPut(XConv:1(XName:1))")
	body(t, `t = "x\x00"; t = ""; o = true; o = false;`, `SPut#2(XText:5"x\x00") SPut#2(XText:5) SPut#4(XTrue:4) SPut#4(XFalse:4)`)
	bad(t, api.ErrOperand, "o = p §== p;", "o = b §!= b;", "o = o §< o;", "o = t §< t;", "t = t §- t;", "o = o §+ o;", "n = n §+ i;", "n = n §<< a;", "i = t§[i];", "t = byte(1i32) + §byte(1);",
		"a = d§[a];", "n = §len(p);", "n = §pop(d);", "t = §cut(t, 1i32, 2);", "t = §cut(t, 1, 2i8);", "t = §cut(b, 1, 2);", "n = §i64(o);", "n = §i64(t);", "o = §!n;", "n = §-o;", "t = §~t;", "o = o §&& n;", "o = n §|| o;", "o = §!a == o;")
}

func TestP8_1Numbers(t *testing.T) {
	for s, want := range map[string]string{
		"0i8": "XInt:1", "127i8": "XInt:1#127", "128i8": "XInt:1#-128", "255i8": "XInt:1#-1",
		"2147483647i32": "XInt:2#2147483647", "2147483648i32": "XInt:2#-2147483648", "4294967295i32": "XInt:2#-1", "200i32": "XInt:2#200",
		"0": "XInt:3", "300": "XInt:3#300", "300i64": "XInt:3#300", "9223372036854775807": "XInt:3#9223372036854775807",
		"9223372036854775808": "XInt:3#-9223372036854775808", "18446744073709551615": "XInt:3#-1", "18446744073709551615i64": "XInt:3#-1",
		"-1": "XNeg:3(XInt:3#1)", "-128i8": "XNeg:1(XInt:1#-128)",
	} {
		body(t, "var x = "+s+";", "SPut#8("+want+")")
	}
}

func TestP8_1Calls(t *testing.T) {
	body(t, "none(); one(); two(); take(a, t); n = one(); o = take(a, t + t);", "SDo(XCall) SDo(XCall:3#1) SDo(XCall#2) SDo(XCall:4#3(XName:1 XName:5#2)) SPut#5(XCall:3#1) SPut#4(XCall:4#3(XName:1 XAdd:5(XName:5#2 XName:5#2)))")
	body(t, "n = f(a, b, t, p, o, one(), i, d);", "SPut#5(XCall:3#4(XName:1 XName:18#1 XName:5#2 XName:16#3 XName:4#4 XCall:3#1 XName:2#6 XName:19#7))")
	bad(t, api.ErrArgs, "§none(1);", "§one(one());", "§take();", "§take(a);", "§take(t, a);", "§take(a, t, a);", "§take(a, a);", "§f(a, b, t, p, o, i, n, d);") // too many, too few, another order
	bad(t, api.ErrArgs, "n = §none();", "n = §two();", "var x = §none();", "var x = §two();", "return §two();", "n = 1 + §none();", "one(§none());", "take(§two());", "take(§two(), t);", "if §two() { }", "while §none() { }", "switch §two() { }", "push(b, §none());", "n = len(§none());", "§two().x = 1;", "§none()[0] = 1;", "n = new P(§two()).x;")
	bad(t, api.ErrName, "§nothing();", "n = §nothing();", "n = §a();", "n = §P();", "§n(1);", "n = §one;", "n = one() + §two;")
	// ErrName comes ahead of the parts; all else behind them
	bad(t, api.ErrName, "§nothing(zz);", "n = §nothing(1 + true);", "none(§zz);", "take(a, §zz, a);", "n = none(§zz);", "n = two(§zz);", "two(1 + §zz);")
	bad(t, api.ErrOperand, "none(1 §+ true);", "take(t, 1 §+ true);", "n = two(1 §+ true);")
	// functions may stand ahead or behind, and call themselves; a local of a function's name hides nothing
	p := made(t, "fn a() i8 { var b = 1; return b(b); } fn b(c i64) i8 { return a(); }")
	if got := tell(p.Funcs[0].Body) + tell(p.Funcs[1].Body); got != "SBlock(SPut(XInt:3#1) SReturn(XCall:1#1(XName:3)))SBlock(SReturn(XCall:1))" {
		t.Error(got)
	}
	// a record and a function may have one name
	made(t, "record a { } fn a() a { return new a(); }")
}

func TestP8_1New(t *testing.T) {
	body(t, "p = new P(1i8, p); var e = new E(); b = new []i64(); d = new [3]i8(a);",
		"SPut#3(XNew:16(XInt:1#1 XName:16#3)) SPut#8(XNew:17) SPut#1(XNew:18) SPut#7(XNew:19(XName:1))")
	bad(t, api.ErrArgs, "p = §new P();", "p = §new P(a);", "p = §new P(1, p);", "p = §new P(a, p, p);", "p = §new P(p, a);", "var e = §new E(a);", "d = §new [3]i8();", "d = §new [3]i8(1);", "d = §new [3]i8(a, a, a);", "b = §new []i64(1);")
	// of no other type
	bad(t, api.ErrArgs, "n = §new i64(1);", "n = §new i64();", "a = §new i8(a);", "i = §new i32();", "o = §new bool(true);", "o = §new bool();", "t = §new bytes(t);", "t = §new bytes();")
	// the parts come ahead
	bad(t, api.ErrName, "p = new P(§zz);", "n = new i64(§zz);", "b = new []i64(1, §zz);")
	bad(t, api.ErrOperand, "p = new P(§-true);")
	bad(t, api.ErrOperand, "b §= new E();", "d §= new []i64();")
}

func TestP8_1Fields(t *testing.T) {
	body(t, "a = p.x; p = p.q.q; a = new P(a, p).x; p.q.x = p.x;", "SPut(XField:1(XName:16#3)) SPut#3(XField:16#1(XField:16#1(XName:16#3))) SPut(XField:1(XNew:16(XName:1 XName:16#3))) SField(XField:16#1(XName:16#3) XField:1(XName:16#3))")
	bad(t, api.ErrName, "a = p.§y;", "a = p.q.§y.x;", "a = §zz.y;", "p.§z = 1;", "p.q.§z = zz;", "a = new E().§x;", "a = p.§P;")
	bad(t, api.ErrOperand, "a = a.§x;", "a = t.§x;", "a = b.§x;", "a = d.§x;", "a = p.x.§x;", "a.§x = 1;", "p.x.§x = zz;", "a = one().§y;")
}

func TestP8_1Targets(t *testing.T) {
	body(t, "a = 1i8; p.x = a; p.q = p; b[n] = n; d[0] = a; b[b[0]] = b[1];", "SPut(XInt:1#1) SField(XName:16#3 XName:1) SField#1(XName:16#3 XName:16#3) SAt(XName:18#1 XName:3#5 XName:3#5) SAt(XName:19#7 XInt:3 XName:1) SAt(XName:18#1 XAt:3(XName:18#1 XInt:3) XAt:3(XName:18#1 XInt:3#1))")
	bad(t, api.ErrOperand, "a §= n;", "n §= a;", "p §= new E();", "o §= 1;", "t §= 1;", "b §= d;", "p.x §= 1;", "p.q §= a;", "b[0] §= a;", "d[0] §= 1;", "n §= 1 == 1;")
	bad(t, api.ErrOperand, "b§[a] = 1;", "b§[o] = 1;", "a§[0] = 1;", "p§[0] = 1;", "n§[n] = n;", "b[0]§[0] = 1;", "b[0].§x = 1;")
	bad(t, api.ErrTarget, "t§[0] = 1i32;", "t§[0] = true;", "t§[n] = zz;", "t§[0] = 1 + true;")
	bad(t, api.ErrOperand, "t§[i] = 1i32;", "t§[true] = zz;") // what an XAt asks for, ahead of what a target does
	bad(t, api.ErrName, "§zz = 1;", "§one = 1;", "t[§zz] = 1;", "§zz[0] = 1;", "§zz.x = 1;", "b[0] = §zz;", "b[§zz] = yy;", "§zz = yy;", "p.q.q[§zz] = 1;")
	// by a call: of one result, whatever it is
	s := "record P { b []P; t bytes; } fn g() P { return g(); } fn h() []P { return g().b; } fn f() { g().b = h(); h()[0] = g(); h()[1].b[2].t = \"\"; "
	p := made(t, s+"}")
	if got, want := tellAll(p.Funcs[2].Body.Kids), `SField(XCall:16 XCall:17#1) SAt(XCall:17#1 XInt:3 XCall:16) SField#1(XAt:16(XField:17(XAt:16(XCall:17#1 XInt:3#1)) XInt:3#2) XText:5)`; got != want {
		t.Error(got)
	}
	refused(t, s+"g().t§[0] = 1i32; }", api.ErrTarget)
}

func TestP8_1Several(t *testing.T) {
	body(t, "var x, y = two(); x, y = two(); a, o = two();", "SPuts(SSlot#8 SSlot#9 XCall#2) SPuts(SSlot#8 SSlot#9 XCall#2) SPuts(SSlot SSlot#4 XCall#2)")
	bad(t, api.ErrArgs, "§var x, y = 1;", "§var x, y = zz;", "§var x, y = a + true;", "§var x, x = 1;", "§var x, y = new P(zz);", "a, o §= 1;", "zz, yy §= 1;", "a, o §= zz;", "a, o §= -two();")                 // no call: ahead of all else
	bad(t, api.ErrArgs, "§var x, y = none();", "§var x, y = one();", "§var x, y, z = two();", "§var x, x = one();", "a, n §= two();", "o, a §= two();", "a, o, o §= two();", "a, o §= none();", "n, n §= one();") // the results do not fit
	bad(t, api.ErrArgs, "var x, y = §two(1);", "a, o = §two(1);", "a, a = §two(1);", "a, o = two(§none());")
	bad(t, api.ErrName, "var x, y = §zz();", "a, o = §zz();", "var x, y = two(§zz);", "a, §zz = two();", "§yy, zz = two();", "§yy, o = zz();", "a, a = two(§zz);", "§yy, a = none(zz);")
	bad(t, api.ErrTwice, "var x, §x = two();", "var x = 1; var y, §x = two();")
	// one name twice may be put to, if the results are of its type
	p := made(t, "fn g() (i8, i8, i8) { return 1i8, 2i8, 3i8; } fn f(a i8) { a, a, a = g(); var b, c, d = g(); }")
	if got := tellAll(p.Funcs[1].Body.Kids); got != "SPuts(SSlot SSlot SSlot XCall) SPuts(SSlot#1 SSlot#2 SSlot#3 XCall)" || fmt.Sprint(p.Funcs[1].Slots) != "[1 1 1 1]" {
		t.Error(got, p.Funcs[1].Slots)
	}
}
