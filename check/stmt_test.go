package check

import (
	"fmt"
	"strconv"
	"strings"
	"testing"

	"trammel/api"
)

func TestP8_1Locals(t *testing.T) {
	body(t, "var x = 1; var a = x; a = 2; { var a = true; a = false; { var a = t; x = 3; } o = a; } a = 4;",
		"SPut#8(XInt:3#1) SPut#9(XName:3#8) SPut#9(XInt:3#2) SBlock(SPut#10(XTrue:4) SPut#10(XFalse:4) SBlock(SPut#11(XName:5#2) SPut#8(XInt:3#3)) SPut#4(XName:4#10)) SPut#9(XInt:3#4)")
	body(t, "var a = a; var b = b;", "SPut#8(XName:1) SPut#9(XName:18#1)") // the value ahead of the name
	body(t, "{ } { { } }", "SBlock SBlock(SBlock)")
	bad(t, api.ErrName, "var x = §x;", "{ var x = 1; } n = §x;", "n = §x; var x = 1;", "if o { var x = 1; } else { n = §x; }", "while o { var x = 1; } n = §x;", "for var x = 1; ; { } n = §x;", "switch n { case 1: var x = 1; case 2: n = §x; }",
		"switch n { case 1: var x = 1; default: n = §x; }", "for ; §x; { var x = true; }", "for ; ; n = §x { var x = 1; }", "while §x { var x = true; }", "var x, y = two(§x);")
	bad(t, api.ErrTwice, "var x = 1; var §x = 2;", "var x = 1; { var x = 2; var §x = 3; }", "{ var x = 1; } var x = 1; var §x = true;", "for var i = 1; ; { var i = 2; var §i = 3; }", "switch n { case 1: var x = 1; var §x = 2; }")
	body(t, "for var i = 1; ; { var i = 2; } var i = 3;", "SBlock(SPut#8(XInt:3#1) SLoop(XTrue:4 SBlock(SPut#9(XInt:3#2)) SBlock)) SPut#10(XInt:3#3)")
	p := made(t, "fn f(a i8, b bool) { { var a = 1; { var b = \"\"; } } var c = a; } fn g(a bytes) { }")
	if got := fmt.Sprint(p.Funcs[0].Slots, p.Funcs[1].Slots, p.Funcs[0].Params, p.Funcs[1].Params); got != "[1 4 3 5 1] [5] [1 4] [5]" {
		t.Error(got)
	}
	refused(t, "fn f(a i8, §a i8) { zz(); }", api.ErrTwice)
	refused(t, "fn f(a i8, b bool, §a []i8) { }", api.ErrTwice)
}

func TestP8_1Blocks(t *testing.T) {
	body(t, "if o { n = 1; }", "SIf(XName:4#4 SBlock(SPut#5(XInt:3#1)) SBlock)")
	body(t, "if o { } else { n = 1; }", "SIf(XName:4#4 SBlock SBlock(SPut#5(XInt:3#1)))")
	body(t, "if o { } else if n < 2 { n = 1; } else if o { } else { n = 2; }", "SIf(XName:4#4 SBlock SBlock(SIf(XLt:4(XName:3#5 XInt:3#2) SBlock(SPut#5(XInt:3#1)) SBlock(SIf(XName:4#4 SBlock SBlock(SPut#5(XInt:3#2)))))))")
	body(t, "return 1; return n; trap 0; trap 255; push(b, 1); push(b, pop(b));", "SReturn(XInt:3#1) SReturn(XName:3#5) STrap STrap#255 SPush(XName:18#1 XInt:3#1) SPush(XName:18#1 XPop:3(XName:18#1))")
	bad(t, api.ErrOperand, "§if n { }", "§if 1 { zz(); }", "if o { } else §if t { }", "§while p { }", "§while 0 { zz(); }", "§for ; n; { }", "§for ; b; zz() { yy(); }",
		"§push(b, a);", "§push(d, a);", "§push(n, n);", "§push(t, i);", "§push(p, p);", "§push(b, b);", "§push(b, o);")
	bad(t, api.ErrName, "if §zz { yy(); }", "if o { §zz(); } else { yy(); }", "push(§zz, yy);", "push(a, §zz);", "push(b, §zz);", "while §zz { yy(); }", "return §zz, yy;", "return 1, §zz;")
	bad(t, api.ErrArgs, "§return;", "§return a;", "§return n, n;", "§return o;", "return §none();")
	refused(t, "fn f() { return §f(); }", api.ErrArgs)
	refused(t, "fn f() (i8, bool) { §return true, 1i8; }", api.ErrArgs)
	refused(t, "fn f() (i8, bool) { §return 1i8; }", api.ErrArgs)
	refused(t, "fn f() (i8, bool) { return §f(); }", api.ErrArgs) // a call is no list of values
	p := made(t, "fn f() { return; } fn g() (i8, bytes, i8) { return 1i8, \"\", 2i8; }")
	if got := tell(p.Funcs[0].Body) + tell(p.Funcs[1].Body); got != "SBlock(SReturn)SBlock(SReturn(XInt:1#1 XText:5 XInt:1#2))" {
		t.Error(got)
	}
}

func TestP8_1Loops(t *testing.T) {
	body(t, "while o { n = 1; }", "SLoop(XName:4#4 SBlock(SPut#5(XInt:3#1)) SBlock)")
	// each of the three parts, there or not
	firsts := map[string]string{"": "", "var k = 0": "SPut#8(XInt:3) ", "n = 0": "SPut#5(XInt:3) ", "none()": "SDo(XCall) ", "var k, l = two()": "SPuts(SSlot#8 SSlot#9 XCall#2) ", "push(b, 1)": "SPush(XName:18#1 XInt:3#1) "}
	tests := map[string]string{"": "XTrue:4", "o": "XName:4#4", "true": "XTrue:4", "n < 3": "XLt:4(XName:3#5 XInt:3#3)"}
	thirds := map[string]string{"": "SBlock", "n = n + 1": "SBlock(SPut#5(XAdd:3(XName:3#5 XInt:3#1)))", "none()": "SBlock(SDo(XCall))", "p.x = a": "SBlock(SField(XName:16#3 XName:1))",
		"d[0] = a": "SBlock(SAt(XName:19#7 XInt:3 XName:1))", "push(b, 2)": "SBlock(SPush(XName:18#1 XInt:3#2))", "a, o = two()": "SBlock(SPuts(SSlot SSlot#4 XCall#2))"}
	for first, wantFirst := range firsts {
		for test, wantTest := range tests {
			for third, wantThird := range thirds {
				body(t, "for "+first+"; "+test+"; "+third+" { break; }", "SBlock("+wantFirst+"SLoop("+wantTest+" SBlock(SBreak) "+wantThird+"))")
			}
		}
	}
	// which is gone through first
	bad(t, api.ErrName, "for n = §y1; y2; y3() { y4(); }", "for ; §y2; y3() { y4(); }", "for ; ; §y3() { y4(); }", "for ; ; { §y4(); }")
	bad(t, api.ErrOperand, "for n §= true; 1; n = o { n = o; }", "§for ; 1; n = o { n = o; }", "for ; ; n §= o { n = t; }", "for ; ; { n §= o; }")
	bad(t, api.ErrTwice, "L: while o { L: §while zz { } }", "L: while o { L: §for ; zz; { } }", "L: while o { L: §while 1 { } }", "L: while o { L: §for ; ; n = o { } }")
	bad(t, api.ErrName, "L: while o { L: for n = §zz; ; { } }")
}

func TestP8_1Turns(t *testing.T) {
	body(t, "while o { for ; ; { break; } switch n { case 1: while o { } default: for ; ; { } } continue; } switch n { } while o { }",
		"SLoop(XName:4#4 SBlock(SBlock(SLoop#1(XTrue:4 SBlock(SBreak#1) SBlock)) SSwitch#2(XName:3#5 SCase(XInt:3#1 SBlock(SLoop#3(XName:4#4 SBlock SBlock))) SBlock(SBlock(SLoop#4(XTrue:4 SBlock SBlock)))) SNext) SBlock) SSwitch#5(XName:3#5 SBlock) SLoop#6(XName:4#4 SBlock SBlock)")
	// to which they lead, with labels and without
	body(t, "A: while o { B: switch n { case 1: break; break A; break B; continue; continue A; default: C: for ; ; { break; break A; break B; break C; continue; continue A; continue C; } } }",
		"SLoop(XName:4#4 SBlock(SSwitch#1(XName:3#5 SCase(XInt:3#1 SBlock(SBreak#1 SBreak SBreak#1 SNext SNext)) SBlock(SBlock(SLoop#2(XTrue:4 SBlock(SBreak#2 SBreak SBreak#1 SBreak#2 SNext#2 SNext SNext#2) SBlock))))) SBlock)")
	bad(t, api.ErrLabel, "§break;", "§continue;", "§break L;", "§continue L;", "while o { } §break;", "L: while o { } §break L;", "while o { §break L; }", "while o { §continue L; }", "switch n { default: §continue; }", "L: switch n { default: §continue L; }",
		"L: switch n { case 1: while o { §continue L; } }", "if o { §break; }", "{ L: while o { } { §continue L; } }", "L: while o { } while o { §break L; }", "switch n { case 1: } §break;")
	bad(t, api.ErrTwice, "L: while o { L: §while o { } }", "L: switch n { case 1: L: §for ; ; { } }", "L: for ; ; { while o { L: §switch n { } } }", "L: while o { M: while o { if o { L: §while o { } } } }")
	body(t, "L: while o { } L: while o { M: while o { } M: switch n { } } n: while o { break n; }", "SLoop(XName:4#4 SBlock SBlock) SLoop#1(XName:4#4 SBlock(SLoop#2(XName:4#4 SBlock SBlock) SSwitch#3(XName:3#5 SBlock)) SBlock) SLoop#4(XName:4#4 SBlock(SBreak#4) SBlock)")
	// each function has turns of its own
	p := made(t, "fn f() { while true { } } fn g() { L: while true { break L; } while true { break; } }")
	if got := tell(p.Funcs[1].Body); got != "SBlock(SLoop(XTrue:4 SBlock(SBreak) SBlock) SLoop#1(XTrue:4 SBlock(SBreak#1) SBlock))" {
		t.Error(got)
	}
	refused(t, "fn f() { L: while true { } } fn g() { §break L; }", api.ErrLabel)
}

// A number without a suffix is one of the value's type, or none at all: then it is refused, whether or not another one stands ahead, and ahead of the -.
func TestP8_1CaseBeyondItsType(t *testing.T) {
	for _, x := range []struct {
		local, typ, most string
		beyond           []string
	}{
		{"a", "1", "255", []string{"256", "257", "300", "384", "511", "512", "65535", "4294967295", "4294967296", "9223372036854775808", "18446744073709551360", "18446744073709551615"}},
		{"i", "2", "4294967295", []string{"4294967296", "4294967297", "6442450944", "8589934591", "9223372036854775808", "18446744069414584320", "18446744073709551615"}},
		{"n", "3", "18446744073709551615", nil},
	} {
		start, end := "SSwitch(XName:"+x.typ+map[string]string{"a": "", "i": "#6", "n": "#5"}[x.local]+" SCase(XInt:"+x.typ, " SBlock) SBlock)"
		body(t, "switch "+x.local+" { case "+x.most+": }", start+"#-1"+end)
		body(t, "switch "+x.local+" { case -"+x.most+": }", start+"#1"+end)
		for _, number := range x.beyond {
			for _, form := range []string{"case §%: ", "case §-%: ", "case 7, §%: ", "case 7: case §-%, 7: ", "case §%: zz(); default: yy(); "} {
				bad(t, api.ErrCase, "switch "+x.local+" { "+strings.ReplaceAll(form, "%", number)+"}")
			}
			body(t, "switch n { case "+number+": }", "SSwitch(XName:3#5 SCase(XInt:3#"+asSigned(number)+" SBlock) SBlock)")
		}
	}
	// what stands ahead is what is wrong first
	bad(t, api.ErrName, "switch a { case 1: §zz(); case 256: }", "switch §zz { case 256: }")
	bad(t, api.ErrCase, "switch a { case §256, 256: }", "switch a { case 1, §1, 256: }", "switch a { case §256: zz(); case 1: }")
	bad(t, api.ErrOperand, "§switch o { case 256: }")
	bad(t, api.ErrTwice, "L: while o { L: §switch a { case 256: } }")
}

// asSigned tells digits, at most 2^64 - 1, as those of a signed number of 64 bits.
func asSigned(digits string) string {
	n, err := strconv.ParseUint(digits, 10, 64)
	if err != nil {
		panic(err)
	}
	return strconv.FormatInt(int64(n), 10)
}

func TestP8_1Switches(t *testing.T) {
	body(t, "switch a { case 1, -2, 3i8: n = 1; case -4i8: default: n = 2; }", "SSwitch(XName:1 SCase(XInt:1#1 XInt:1#-2 XInt:1#3 SBlock(SPut#5(XInt:3#1))) SCase(XInt:1#-4 SBlock) SBlock(SPut#5(XInt:3#2)))")
	body(t, "switch n { } switch i { default: } switch a + a { case 0: }", "SSwitch(XName:3#5 SBlock) SSwitch#1(XName:2#6 SBlock) SSwitch#2(XAdd:1(XName:1 XName:1) SCase(XInt:1 SBlock) SBlock)")
	// the numbers as signed ones of the width, turned by a -
	body(t, "switch a { case 127, 128, 255, 254i8, -127, -3, -253: }", "SSwitch(XName:1 SCase(XInt:1#127 XInt:1#-128 XInt:1#-1 XInt:1#-2 XInt:1#-127 XInt:1#-3 XInt:1#3 SBlock) SBlock)")
	body(t, "switch i { case 4294967295, 2147483648i32, -2, -2147483647i32: }", "SSwitch(XName:2#6 SCase(XInt:2#-1 XInt:2#-2147483648 XInt:2#-2 XInt:2#-2147483647 SBlock) SBlock)")
	body(t, "switch n { case 18446744073709551615, 9223372036854775808i64, -2, 255: }", "SSwitch(XName:3#5 SCase(XInt:3#-1 XInt:3#-9223372036854775808 XInt:3#-2 XInt:3#255 SBlock) SBlock)")
	body(t, "switch a { case -128: } switch n { case 44, 300: }", "SSwitch(XName:1 SCase(XInt:1#-128 SBlock) SBlock) SSwitch#1(XName:3#5 SCase(XInt:3#44 XInt:3#300 SBlock) SBlock)")
	bad(t, api.ErrCase, "switch a { case 255, §-1: }", "switch a { case 1: case §1: }", "switch a { case 1, §1i8: }", "switch a { case -128, §128: }", "switch a { case 0, §-0: }", "switch a { case 1, §-255: }",
		"switch i { case 4294967295, §-1: }", "switch n { case 18446744073709551615, §-1: }", "switch n { case -9223372036854775808, §9223372036854775808: }", "switch n { case 7: case 8: case 9, §7: }", "switch i { case 0, §0: }")
	bad(t, api.ErrCase, "switch a { case §1i64: }", "switch a { case §1i32: }", "switch i { case 1i32, §2i8: }", "switch n { case §-1i8: }", "switch n { case 1i64, §-1i32: }", "switch a { case 1: case §-1i64, 1: }")
	bad(t, api.ErrOperand, "§switch o { }", "§switch t { case 1, 1: }", "§switch p { default: zz(); }", "§switch b { }")
	bad(t, api.ErrName, "switch §zz { case 1, 1: }", "switch n { case 1: §zz(); case 1: }", "switch n { case 1: §zz(); default: yy(); }", "switch n { default: §yy(); }")
	bad(t, api.ErrCase, "switch n { case 1, §1: zz(); }", "switch n { case 1: case §1: zz(); }")
	// entered behind the value
	bad(t, api.ErrName, "L: while o { L: switch §zz { } }")
	bad(t, api.ErrOperand, "L: while o { L: §switch o { } }")
	bad(t, api.ErrTwice, "L: while o { L: §switch n { case 1, 1: } }")
	// a switch within another has numbers of its own
	body(t, "switch n { case 1: switch n { case 1: } case 2: }", "SSwitch(XName:3#5 SCase(XInt:3#1 SBlock(SSwitch#1(XName:3#5 SCase(XInt:3#1 SBlock) SBlock))) SCase(XInt:3#2 SBlock) SBlock)")
}

// What is wrong with the types comes ahead of what is with the functions, and that ahead of what is in the bodies.
func TestP8_1Order(t *testing.T) {
	for marked, wrong := range map[string]api.Errno{
		"fn f() { zz(); } fn f() { } record P { a §Q; }":                   api.ErrType,
		"fn f() { zz(); } fn f() { x = new §[0]i8(1i8); }":                 api.ErrLen,
		"fn f(a i8, a i8) { zz(); } fn §f() { }":                           api.ErrTwice,
		"fn f() { zz(); } fn g() { } fn h() { } fn §g() { }":               api.ErrTwice,
		"fn f() { zz(); } fn g(" + row(32, ", ", "a# i8") + ", §b i8) { }": api.ErrLimit,
		"fn f(a i8, §a i8) { zz(); }":                                      api.ErrTwice,
		"fn f() { §zz(); } fn g() { yy(); }":                               api.ErrName,
		"fn f() { §zz(); yy(); } fn g(a i8, a i8) { }":                     api.ErrName,
		"fn f() { } fn g(a i8, §a i8) { }":                                 api.ErrTwice,
		"fn f() { { if true { while 1 §== 2i8 { } } } zz(); }":             api.ErrOperand,
		"fn f() { var x = 1; var x = §zz; }":                               api.ErrName,
		"fn f() { var x = (1 + §zz) + (true + 1); }":                       api.ErrName,
		"fn f() { var x = (true §+ 1) + (1 + zz); }":                       api.ErrOperand,
		"fn f() { var x = f(§zz); }":                                       api.ErrName,
	} {
		refused(t, marked, wrong)
	}
}

func TestP8_1Limits(t *testing.T) {
	funcs := row(256, " ", "fn f#() { }")
	if p := made(t, funcs); len(p.Funcs) != 256 || Valid(p) != api.OK || p.Funcs[255].Name != "f255" {
		t.Error("256 functions")
	}
	refused(t, funcs+" fn §more() { }", api.ErrLimit)
	refused(t, funcs+" fn §f0() { } fn f0() { }", api.ErrLimit)
	refused(t, "fn f0() { zz(); }"+strings.TrimPrefix(funcs, "fn f0() { }")+" record R { } fn §more(a i8, a i8) { }", api.ErrLimit)

	params := row(32, ", ", "a# i8")
	if p := made(t, "fn f("+params+") { a31 = a0; }"); len(p.Funcs[0].Params) != 32 || len(p.Funcs[0].Slots) != 32 || Valid(p) != api.OK {
		t.Error("32 parameters")
	}
	refused(t, "fn f("+params+", §b i8) { }", api.ErrLimit)
	refused(t, "fn f("+params+", §a0 i8, c i8) { }", api.ErrLimit)
	results := strings.Repeat("i8, ", 7)
	ones := strings.Repeat("1i8, ", 7) + "1i8"
	if p := made(t, "fn f() ("+results+"i8) { return "+ones+"; }"); len(p.Funcs[0].Results) != 8 || Valid(p) != api.OK {
		t.Error("8 results")
	}
	refused(t, "fn f() ("+results+"i8, §bool) { }", api.ErrLimit)
	refused(t, "fn f() ("+results+"i8, §[3]bool, i8) { }", api.ErrLimit)
	refused(t, "fn f("+params+", §b i8) ("+results+"i8, bool) { }", api.ErrLimit)
	refused(t, "fn f() ("+results+"i8, §i8) { } fn g("+params+", b i8) { } fn f() { }", api.ErrLimit)
	refused(t, "fn f() { } fn g("+params+", §b i8) { } fn f() { }", api.ErrLimit)
	refused(t, "fn f() { } fn §f("+params+", b i8) { }", api.ErrTwice)
}

func TestP8_1Slots(t *testing.T) {
	vars := row(255, " ", "var x# = a;")
	p := made(t, "fn f(a i8) { "+vars+" x254 = x0; }")
	if f := p.Funcs[0]; len(f.Slots) != 256 || Valid(p) != api.OK || tell(f.Body.Kids[255]) != "SPut#255(XName:1#1)" {
		t.Error("256 slots")
	}
	refused(t, "fn f(a i8) { "+vars+" var §y = a; zz(); }", api.ErrLocals)
	refused(t, "fn f(a i8) { "+vars+" var §x0 = a; }", api.ErrTwice)
	refused(t, "fn f(a i8) { "+vars+" var y = §zz; }", api.ErrName)
	refused(t, "fn f(a i8) { "+vars+" { var §x0 = a; } }", api.ErrLocals)
	refused(t, "fn f(a i8) { "+strings.Repeat("{ var x = a; } ", 255)+"for var §x = a; ; { } }", api.ErrLocals) // those of closed blocks count
	refused(t, "fn g() (i8, i8) { return 1i8, 2i8; } fn f(a i8) { "+row(254, " ", "var x# = a;")+" var y, §z = g(); }", api.ErrLocals)
	refused(t, "fn g() (i8, i8) { return 1i8, 2i8; } fn f(a i8) { "+vars+" var §y, y = g(); }", api.ErrLocals)
	made(t, "fn f(a i8) { "+vars+" } fn g(a i8) { "+vars+" }")
}

func TestP8_1Nodes(t *testing.T) {
	for s, want := range map[string]int{
		"fn f() { }": 4, "fn f(a i8) i8 { var b = a; return b; }": 12, "fn f(a [][3]P) { } record P { x i8; }": 8, "fn f() (i8, bool) { }": 6,
		"fn f() { for ; ; { } }": 9, "fn f() { switch 1 { case -1: default: } }": 12, "fn f() { if true { } }": 7,
	} {
		if got := made(t, s).Funcs[0].Nodes; got != want {
			t.Errorf("%s: %d nodes, want %d", s, got, want)
		}
	}
}
