package eval

import (
	"fmt"
	"math"
	"testing"

	"trammel/api"
)

func i8(n int64) api.Value       { return api.Value{Kind: api.I8, N: n} }
func i32(n int64) api.Value      { return api.Value{Kind: api.I32, N: n} }
func i64(n int64) api.Value      { return api.Value{Kind: api.I64, N: n} }
func truth(n int64) api.Value    { return api.Value{Kind: api.Bool, N: n} }
func letters(s string) api.Value { return api.Value{Kind: api.Text, Text: s} }

func values(steps int, list ...api.Value) api.Answer { return api.Answer{Values: list, Steps: steps} }
func trapped(steps, trap int) api.Answer             { return api.Answer{Trap: trap, Steps: steps} }

// The chapter's examples.
func TestP11_1Examples(t *testing.T) {
	for _, s := range []struct {
		stmts string
		want  api.Answer
	}{
		{"return b;", values(3, i64(7))},
		{"return b / (b - 7);", trapped(7, api.TrapDiv)},
		{"var s = 0; for var i = 0; i < 3; i = i + 1 { s = s + i; } return s;", values(51, i64(3))},
		{"return i64(a * 100i8);", values(6, i64(-12))},
		{"return f(a, b);", trapped(5*256, api.TrapDepth)},
		{"trap 3;", trapped(2, 103)},
	} {
		t.Run(s.stmts, func(t *testing.T) {
			answers(t, made(t, "fn f(a i8, b i64) i64 { "+s.stmts+" }"), 0, []int64{5, 7}, s.want)
		})
	}
	p := made(t, "fn f(a i8, b i64) i64 { while true { } }")
	told(t, p, 0, []int64{5, 7}, 100, api.Answer{}, 0, api.ErrFuel)
	p = made(t, "fn f(a i8, b i64) i64 { return b; }")
	told(t, p, 0, []int64{300, 7}, 100, api.Answer{}, 0, api.ErrFits)
	told(t, p, 0, []int64{5}, 100, api.Answer{}, 0, api.ErrCount)
	told(t, p, 0, []int64{5, 7}, -1, api.Answer{}, 0, api.ErrFuel)
}

// The examples of the whole that are the plain meaning's.
func TestP11_1Whole(t *testing.T) {
	for _, s := range []struct {
		source string
		args   []int64
		want   api.Answer
	}{
		{"fn f(a i8) i8 { return a + 1i8; }", []int64{127}, values(5, i8(-128))},
		{"fn f(n i64) i64 { if n < 2 { return 1; } return n * f(n - 1); }", []int64{5}, values(4*13+8, i64(120))},
		{"fn f(n i64) i64 { if n < 2 { return 1; } return n * f(n - 1); }", []int64{300}, trapped(256*13, api.TrapDepth)},
		{"record P { x i64; } fn f() i64 { var p = new P(1); var q = p; q.x = 5; return p.x; }", nil, values(12, i64(5))},
		{"fn f() i32 { var t = \"ab\"; return t[2]; }", nil, trapped(7, api.TrapIndex)},
		{"fn f() i64 { return 1 / 0; }", nil, trapped(5, api.TrapDiv)},
		{"fn f() bytes { return byte(300i32); }", nil, trapped(4, api.TrapByte)},
		{"fn two(n i64) i64 { return n * 2; }", []int64{-21}, values(5, i64(-42))},
	} {
		t.Run(s.source, func(t *testing.T) { answers(t, made(t, s.source), 0, s.args, s.want) })
	}
}

// Each kind of value, with the rules that it uses: those of the block, of the return, and one for each term in it.
func TestP11_1Values(t *testing.T) {
	const world = "record P { x i64; y bytes; } fn four() i64 { return 4; } fn none() { } fn pair() (i8, bool) { return 9i8, true; }"
	for _, s := range []struct {
		typ, value string
		want       api.Value
		rules      int
	}{
		{"i8", "5i8", i8(5), 1}, {"i8", "255i8", i8(-1), 1}, {"i32", "2147483648i32", i32(math.MinInt32), 1}, {"i64", "18446744073709551615", i64(-1), 1},
		{"bool", "true", truth(1), 1}, {"bool", "false", truth(0), 1},
		{"bytes", "\"\"", letters(""), 1}, {"bytes", "\"a\\x00\\xff\"", letters("a\x00\xff"), 1},
		{"i8", "a", i8(-5), 1}, {"bool", "o", truth(1), 1}, {"bytes", "s", letters("xyz"), 1},
		{"i64", "four()", i64(4), 4},
		{"i8", "i8(b)", i8(-56), 2}, {"i32", "i32(a)", i32(-5), 2}, {"i64", "i64(a)", i64(-5), 2}, {"i8", "i8(-129)", i8(127), 3}, {"i64", "i64(i32(4294967295))", i64(-1), 3},
		{"P", "new P(b, s)", api.Value{Kind: api.Record, N: 2}, 3}, {"[5]i8", "new [5]i8(a)", api.Value{Kind: api.Fixed, N: 5}, 2}, {"[]i8", "new []i8()", api.Value{Kind: api.Grow}, 1},
		{"i64", "new P(b, s).x", i64(200), 4}, {"bytes", "new P(b, s).y", letters("xyz"), 4},
		{"i8", "new [5]i8(a)[4]", i8(-5), 4}, {"i32", "s[1]", i32('y'), 3}, {"i32", "\"\\xff\"[0]", i32(255), 3},
		{"i64", "len(s)", i64(3), 2}, {"i64", "len(\"\")", i64(0), 2}, {"i64", "len(new [65536]bool(o))", i64(65536), 3}, {"i64", "len(new []bool())", i64(0), 2},
		{"bytes", "cut(s, 1, 3)", letters("yz"), 4}, {"bytes", "cut(s, 0, 0)", letters(""), 4}, {"bytes", "byte(65i32)", letters("A"), 2}, {"bytes", "byte(255i32)", letters("\xff"), 2}, {"bytes", "byte(0i32)", letters("\x00"), 2},
		{"i8", "-a", i8(5), 2}, {"i8", "-128i8", i8(-128), 2}, {"i8", "~a", i8(4), 2}, {"i64", "~0", i64(-1), 2}, {"bool", "!o", truth(0), 2}, {"bool", "!!o", truth(1), 3},
		{"i8", "a + 4i8", i8(-1), 3}, {"i8", "a - 124i8", i8(127), 3}, {"i8", "a * a", i8(25), 3}, {"i8", "a / 2i8", i8(-2), 3}, {"i8", "a % 2i8", i8(-1), 3},
		{"i64", "b & 12", i64(8), 3}, {"i64", "b | 12", i64(204), 3}, {"i64", "b ^ 12", i64(196), 3}, {"i64", "b << 66", i64(800), 3}, {"i8", "a >> 9i8", i8(-3), 3}, {"i32", "1i32 << 31i32", i32(math.MinInt32), 3},
		{"bytes", "s + s", letters("xyzxyz"), 3}, {"bytes", "\"\" + \"\"", letters(""), 3},
		{"bool", "a == -5i8", truth(1), 4}, {"bool", "a != -5i8", truth(0), 4}, {"bool", "a < 0i8", truth(1), 3}, {"bool", "a <= a", truth(1), 3}, {"bool", "a > a", truth(0), 3}, {"bool", "a >= 0i8", truth(0), 3}, {"bool", "-1 < 0", truth(1), 4},
		{"bool", "o == true", truth(1), 3}, {"bool", "o == false", truth(0), 3}, {"bool", "o != true", truth(0), 3}, {"bool", "false == false", truth(1), 3}, {"bool", "o != false", truth(1), 3},
		{"bool", "s == \"xyz\"", truth(1), 3}, {"bool", "s != \"xyz\"", truth(0), 3}, {"bool", "s == \"xy\"", truth(0), 3}, {"bool", "s != \"xyZ\"", truth(1), 3}, {"bool", "\"\" == cut(s, 3, 3)", truth(1), 6},
		{"bool", "true && true", truth(1), 3}, {"bool", "true && false", truth(0), 3}, {"bool", "false && true", truth(0), 2}, {"bool", "false && false", truth(0), 2},
		{"bool", "true || true", truth(1), 2}, {"bool", "true || false", truth(1), 2}, {"bool", "false || true", truth(1), 3}, {"bool", "false || false", truth(0), 3},
		{"bool", "false && false || true && o", truth(1), 2 + 1 + 3}, {"bool", "(true || o) && (false || o)", truth(1), 1 + 2 + 3},
	} {
		t.Run(s.value, func(t *testing.T) {
			p := made(t, world+" fn f(a i8, b i64, o bool) "+s.typ+" { var s = \"xyz\"; return "+s.value+"; }")
			answers(t, p, 3, []int64{-5, 200, 1}, values(4+s.rules, s.want))
		})
	}
}

// Each kind of statement, with the rules that it uses.
func TestP11_1Statements(t *testing.T) {
	const world = `record P { x i64; y bytes; } fn none() { } fn ends() { if false { return; } } fn pair() (i64, i64) { return 8, 9; } fn both(a i64) (i64, i64, bool) { return a, a + 1, true; }`
	for _, s := range []struct {
		stmts string
		want  int64
		rules int
	}{
		{"return 1;", 1, 3},
		{"{ } { { } } return 1;", 1, 6},
		{"b = 3; return b;", 3, 5},
		{"b = b; return b;", 7, 5},
		{"var c = b + 1; b = 0; return c;", 8, 1 + 4 + 2 + 2},
		{"var c, d = pair(); return c * 10 + d;", 89, 1 + 2 + 4 + 1 + 5},
		{"var c = 0; c, c = pair(); return c;", 8, 1 + 2 + 2 + 4 + 2},
		{"var c = 0; var d = false; c, c, d = both(b); return c;", 7, 1 + 2 + 2 + 3 + (2 + 1 + 3 + 1) + 2},
		{"var p = new P(b, \"\"); p.x = 4; return p.x;", 4, 1 + 4 + 3 + 3},
		{"var w = new [2]i64(b); w[1] = 4; return w[0] * 10 + w[1];", 74, 1 + 3 + 4 + 1 + 1 + 1 + 3 + 1 + 3},
		{"none(); return 1;", 1, 1 + 3 + 2},
		{"pair(); return 1;", 1, 1 + 2 + 4 + 2},
		{"ends(); return 1;", 1, 1 + 2 + 4 + 2},
		{"var l = new []i64(); push(l, b); push(l, 3); return len(l) * 10 + pop(l);", 23, 1 + 2 + 3 + 3 + 1 + 1 + 1 + 2 + 1 + 2},
		{"if true { b = 1; } return b;", 1, 1 + 3 + 2 + 2},
		{"if false { b = 1; } return b;", 7, 1 + 3 + 2},
		{"if false { b = 1; } else { b = 2; } return b;", 2, 1 + 3 + 2 + 2},
		{"if false { b = 1; } else if true { b = 3; } else { b = 4; } return b;", 3, 1 + 3 + 2 + 1 + 2 + 2},
		{"while b > 5 { b = b - 1; } return b;", 5, 1 + 1 + 3*3 + 2*(5+1) + 2},
		{"while false { b = 1; } return b;", 7, 1 + 2 + 2},
		{"for ; ; { break; } return b;", 7, 1 + 1 + 1 + 1 + 2 + 2},
		{"for ; b > 5; b = b - 1 { } return b;", 5, 1 + 2 + 3*3 + 2*(1+5) + 2},
		{"switch b { case 7: b = 1; } return b;", 1, 1 + 2 + 1 + 2 + 2},
		{"switch b { case 6, 7, 8: b = 1; case 9: b = 2; default: b = 3; } return b;", 1, 1 + 2 + 1 + 2 + 2},
		{"switch b { case 6: b = 1; case 9, 7: b = 2; default: b = 3; } return b;", 2, 1 + 2 + 1 + 2 + 2},
		{"switch b { case 6: b = 1; case 9: b = 2; default: b = 3; } return b;", 3, 1 + 2 + 1 + 2 + 2},
		{"switch b { case 6: b = 1; } return b;", 7, 1 + 2 + 1 + 2},
		{"switch b { } return b;", 7, 1 + 2 + 1 + 2},
		{"switch a { case 251: b = 1; case 5: b = 2; } return b;", 1, 1 + 2 + 1 + 2 + 2},
		{"switch a { case -5: b = 1; case 5: b = 2; } return b;", 1, 1 + 2 + 1 + 2 + 2},
		{"switch b { case 7: b = 1; break; b = 2; } return b;", 1, 1 + 2 + 1 + 2 + 1 + 2},
		{"switch b { case 7: if true { break; } b = 2; default: b = 3; } return b;", 7, 1 + 2 + 1 + 3 + 1 + 2},
	} {
		t.Run(s.stmts, func(t *testing.T) {
			p := made(t, world+" fn f(a i8, b i64) i64 { "+s.stmts+" }")
			answers(t, p, 4, []int64{-5, 7}, values(s.rules, i64(s.want)))
		})
	}
}

// A loop or a switch is left, and a loop gone on with, from within others.
func TestP11_1Leaps(t *testing.T) {
	for _, s := range []struct {
		stmts string
		want  int64
	}{
		{"while true { n = n + 1; if n > 3 { break; } }", 4},
		{"while n < 10 { n = n + 1; continue; n = n + 100; }", 10},
		{"for var i = 0; i < 10; i = i + 1 { if i % 2 == 0 { continue; } n = n + i; }", 25},
		{"L: for var i = 0; i < 3; i = i + 1 { for var j = 0; j < 3; j = j + 1 { if j == 1 { continue L; } n = n + 10 * i + j; } n = n + 1000; }", 30},
		{"L: for var i = 0; i < 3; i = i + 1 { for var j = 0; j < 3; j = j + 1 { if i == 1 { break L; } n = n + 1; } n = n + 100; }", 103},
		{"L: for var i = 0; i < 3; i = i + 1 { for var j = 0; j < 3; j = j + 1 { if j == 1 { break; } n = n + 1; } n = n + 100; }", 303},
		{"A: while true { B: while true { C: while true { n = n + 1; if n > 5 { break A; } if n > 3 { continue A; } if n > 1 { break B; } continue B; } n = n + 100; } n = n + 1000; }", 1003},
		{"for var i = 0; i < 5; i = i + 1 { switch i { case 1: continue; case 3: break; default: n = n + 10; } n = n + 1; }", 34},
		{"L: for var i = 0; i < 5; i = i + 1 { switch i { case 3: break L; default: n = n + 10; } n = n + 1; }", 33},
		{"S: switch n { case 0: while true { n = n + 1; if n == 4 { break S; } } n = 99; }", 4},
		{"S: switch n { case 0: while true { n = n + 1; if n == 4 { break; } } n = n + 90; }", 94},
		{"switch n { case 0: switch n + 1 { case 1: n = 5; break; } n = n + 1; default: n = 99; }", 6},
		{"S: switch n { default: switch n + 1 { case 1: n = 5; break S; } n = n + 1; }", 5},
		{"L: while n < 5 { S: switch n { case 2: n = n + 2; continue L; case 4: break S; } n = n + 1; }", 5},
		{"while n < 3 { while true { while true { { { break; } } } break; } n = n + 1; }", 3},
		{"for ; ; n = n + 1 { if n < 4 { continue; } break; }", 4},
		{"for var i = 0; i < 2; i = i + 1 { for var j = 0; j < 2; j = j + 1 { n = n + 1; } } for var i = 0; i < 3; i = i + 1 { n = n + 10; }", 34},
		{"while true { while true { n = n + 1; return n * 2; } }", 2},
		{"for var i = 0; true; i = i + 1 { switch i { case 4: return i; } }", 4},
	} {
		t.Run(s.stmts, func(t *testing.T) {
			p := made(t, "fn f() i64 { var n = 0; "+s.stmts+" return n; }")
			a, wrong := asPlain(t, p, 0, nil, plenty)
			if wrong != api.OK || len(a.Values) != 1 || a.Values[0] != i64(s.want) {
				t.Errorf("%v, %d, want %d", a, wrong, s.want)
			}
		})
	}
}

// A trace keeps which calls were made, one behind the other: each puts its number into an array.
const trace = `record T { l []i64; n i64; b bool; } fn log(t []i64, n i64) i64 { push(t, n); return n; } fn say(t []i64, n i64, o bool) bool { push(t, n); return o; }
fn list(t []i64, n i64) []i64 { push(t, n); return t; } fn thing(t []i64, n i64) T { push(t, n); return new T(t, n, true); } fn word(t []i64, n i64) bytes { push(t, n); return "abc"; }
fn three(a i64, b i64, c i64) (i64, i64) { return a, b; } fn sum(t []i64) i64 { var n = 0; for var i = 0; i < len(t); i = i + 1 { n = n * 10 + t[i]; } return n; } `

// Parts are worked out from the left, each once.
func TestP11_1Order(t *testing.T) {
	for _, s := range []struct {
		stmts string
		want  int64
	}{
		{"var x = log(t, 1) + log(t, 2) * log(t, 3);", 123},
		{"var x = (log(t, 1) - log(t, 2)) / log(t, 3);", 123},
		{"three(log(t, 1), log(t, 2), log(t, 3));", 123},
		{"var x, y = three(log(t, 1), log(t, 2), log(t, 3));", 123},
		{"var x = new T(list(t, 1), log(t, 2), say(t, 3, true));", 123},
		{"thing(t, 1).n = log(t, 2);", 12},
		{"list(t, 1)[log(t, 2) - 2] = log(t, 3);", 323},
		{"var x = list(t, 1)[log(t, 0)];", 10},
		{"push(list(t, 1), log(t, 2));", 122},
		{"var x = cut(word(t, 1), log(t, 2), log(t, 3));", 123},
		{"var x = word(t, 1)[log(t, 2)];", 12},
		{"var x = word(t, 1) + word(t, 2);", 12},
		{"var x = word(t, 1) == word(t, 2);", 12},
		{"var x = log(t, 1) < log(t, 2);", 12},
		{"var x = say(t, 1, true) == say(t, 2, true);", 12},
		{"var x = say(t, 1, true) && say(t, 2, false) && say(t, 3, true);", 12},
		{"var x = say(t, 1, false) || say(t, 2, true) || say(t, 3, true);", 12},
		{"var x = say(t, 1, false) && say(t, 2, true) || say(t, 3, true);", 13},
		{"if say(t, 1, false) { log(t, 2); } else { log(t, 3); }", 13},
		{"if say(t, 1, true) { log(t, 2); } else { log(t, 3); }", 12},
		{"while say(t, 1, len(t) < 4) { log(t, 2); }", 12121},
		{"for log(t, 1); say(t, 2, len(t) < 4); log(t, 3) { log(t, 4); }", 12432},
		{"for ; say(t, 2, len(t) < 4); log(t, 3) { continue; }", 23232},
		{"switch log(t, 2) { case 1: log(t, 1); case 2: log(t, 3); default: log(t, 4); }", 23},
		{"thing(t, 1).b = say(t, 2, true);", 12},
		{"var x = len(list(t, 4)) + pop(list(t, 5)) + pop(t);", 0},
		{"var x = -log(t, 1) + ~log(t, 2) + i64(i8(log(t, 3)));", 123},
	} {
		t.Run(s.stmts, func(t *testing.T) {
			p := made(t, trace+"fn f() i64 { var t = new []i64(); "+s.stmts+" return sum(t); }")
			a, wrong := asPlain(t, p, len(p.Funcs)-1, nil, plenty)
			if wrong != api.OK || len(a.Values) != 1 || a.Values[0] != i64(s.want) {
				t.Errorf("%v, %d, want %d", a, wrong, s.want)
			}
		})
	}
}

// The right part of && and || is not begun, where the left one tells the whole: what would trap there does not.
func TestP11_1Begun(t *testing.T) {
	for _, s := range []struct {
		value string
		want  api.Answer
	}{
		{"o && 1 / 0 == 1", values(4, truth(0))},
		{"!o || 1 / 0 == 1", values(5, truth(1))},
		{"!o && 1 / 0 == 1", trapped(9, api.TrapDiv)},
		{"o || 1 / 0 == 1", trapped(8, api.TrapDiv)},
		{"o && f(o)", values(4, truth(0))},
		{"o || f(o)", trapped(256*6, api.TrapDepth)},
	} {
		t.Run(s.value, func(t *testing.T) {
			answers(t, made(t, "fn f(o bool) bool { return "+s.value+"; }"), 0, []int64{0}, s.want)
		})
	}
}

// Results of each type, as many as there can be, and none.
func TestP11_1Results(t *testing.T) {
	const world = "record P { x i8; y bytes; } record E { } "
	for _, s := range []struct {
		source string
		want   []api.Value
	}{
		{"fn f() { }", nil},
		{"fn f() { return; }", nil},
		{"fn f() { if true { return; } trap 1; }", nil},
		{"fn f() (i8, i32, i64) { return 128i8, 2147483648i32, 9223372036854775808; }", []api.Value{i8(-128), i32(math.MinInt32), i64(math.MinInt64)}},
		{"fn f() (i8, i32, i64) { return 127i8, 2147483647i32, 9223372036854775807; }", []api.Value{i8(127), i32(math.MaxInt32), i64(math.MaxInt64)}},
		{"fn f() (bool, bool) { return true, false; }", []api.Value{truth(1), truth(0)}},
		{"fn f() (bytes, bytes, bytes) { var t = \"a\\x00\\xfe\"; return t, t + t, \"\"; }", []api.Value{letters("a\x00\xfe"), letters("a\x00\xfea\x00\xfe"), letters("")}},
		{"fn f() (P, E) { return new P(1i8, \"\"), new E(); }", []api.Value{{Kind: api.Record, N: 2}, {Kind: api.Record}}},
		{"fn f() ([3]i8, [65536]P, [1][1]bool) { return new [3]i8(2i8), new [65536]P(new P(1i8, \"\")), new [1][1]bool(new [1]bool(true)); }", []api.Value{{Kind: api.Fixed, N: 3}, {Kind: api.Fixed, N: 65536}, {Kind: api.Fixed, N: 1}}},
		{"fn f() ([]i8, []i8, []i8) { var l = new []i8(); var k = new []i8(); push(l, 1i8); push(l, 1i8); var x = pop(l); return k, l, l; }", []api.Value{{Kind: api.Grow}, {Kind: api.Grow, N: 1}, {Kind: api.Grow, N: 1}}},
		{"fn f() (i8, bool, i8, bool, i8, bool, i8, bool) { return 1i8, true, 2i8, true, 3i8, true, 4i8, false; }", []api.Value{i8(1), truth(1), i8(2), truth(1), i8(3), truth(1), i8(4), truth(0)}},
		{"fn f() (i64, i64) { var a, b = g(); return b, a; } fn g() (i64, i64) { return 1, 2; }", []api.Value{i64(2), i64(1)}},
	} {
		t.Run(s.source, func(t *testing.T) {
			p := made(t, world+s.source)
			a, wrong := asPlain(t, p, 0, nil, plenty)
			if wrong != api.OK || a.Trap != api.TrapNone || fmt.Sprint(a.Values) != fmt.Sprint(s.want) {
				t.Errorf("%v, %d, want %v", a, wrong, s.want)
			}
		})
	}
}
