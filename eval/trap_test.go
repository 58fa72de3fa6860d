package eval

import (
	"strings"
	"testing"

	"trammel/api"
)

// Each trap, and which of two comes first; the rules tell how far the run came.
func TestP11_1Traps(t *testing.T) {
	const world = `record P { x i64; l []i64; } fn id(n i64) i64 { return n; } fn two() (i64, i64) { return 1 / 0, 2; } `
	for _, s := range []struct {
		stmts string
		rules int
		trap  int
	}{
		{"b = b / 0;", 5, api.TrapDiv}, {"b = b % 0;", 5, api.TrapDiv}, {"a = a / (a - a);", 7, api.TrapDiv}, {"var c = 1i32 % 0i32;", 5, api.TrapDiv},
		{"b = 0 / 0 + pop(new []i64());", 6, api.TrapDiv}, {"b = pop(new []i64()) + 0 / 0;", 5, api.TrapEmpty},
		{"b = id(1 / 0) + id(2);", 7, api.TrapDiv}, {"var c, d = two();", 8, api.TrapDiv}, {"two();", 8, api.TrapDiv},
		{"var s = \"ab\"; var c = s[2];", 3 + 4, api.TrapIndex}, {"var c = \"ab\"[-1];", 6, api.TrapIndex}, {"var c = \"\"[0];", 5, api.TrapIndex}, {"var c = \"ab\"[9223372036854775808];", 5, api.TrapIndex},
		{"var w = new [2]i64(b); b = w[2];", 4 + 4, api.TrapIndex}, {"var w = new [2]i64(b); b = w[-1];", 4 + 5, api.TrapIndex}, {"var w = new [2]i64(b); w[2] = b;", 4 + 4, api.TrapIndex}, {"var w = new [2]i64(b); w[-1] = b;", 4 + 5, api.TrapIndex},
		{"var w = new [2]i64(b); w[2] = b / 0;", 4 + 6, api.TrapDiv}, {"var w = new [2]i64(b); w[0 / 0] = w[7];", 4 + 5, api.TrapDiv},
		{"var l = new []i64(); b = l[0];", 3 + 4, api.TrapIndex}, {"var l = new []i64(); l[0] = b;", 3 + 4, api.TrapIndex}, {"var l = new []i64(); push(l, b); b = l[1];", 3 + 3 + 4, api.TrapIndex},
		{"var l = new []i64(); push(l, l[0]);", 3 + 5, api.TrapIndex}, {"var l = new []i64(); push(l, b); b = pop(l); b = pop(l);", 3 + 3 + 3 + 3, api.TrapEmpty},
		{"var s = cut(\"abc\", -1, 2);", 7, api.TrapIndex}, {"var s = cut(\"abc\", 2, 1);", 6, api.TrapIndex}, {"var s = cut(\"abc\", 3, 4);", 6, api.TrapIndex}, {"var s = cut(\"abc\", 4, 4);", 6, api.TrapIndex},
		{"var s = cut(\"abc\", 0, 9223372036854775807);", 6, api.TrapIndex}, {"var s = cut(\"abc\", 0, 9223372036854775808);", 6, api.TrapIndex}, {"var s = cut(\"abc\", 9223372036854775808, 1);", 6, api.TrapIndex},
		{"var s = byte(256i32);", 4, api.TrapByte}, {"var s = byte(-1i32);", 5, api.TrapByte}, {"var s = byte(2147483648i32);", 4, api.TrapByte}, {"var s = byte(2147483647i32);", 4, api.TrapByte},
		{"trap 0;", 2, 100}, {"trap 1;", 2, 101}, {"trap 255;", 2, 355}, {"b = 1; trap 7; trap 8;", 4, 107}, {"if b == 7 { trap 9; } trap 8;", 7, 109},
		{"while true { b = b - 1; trap 4; }", 1 + 2 + 1 + 4 + 1, 104}, {"switch b { case 7: trap 1; default: trap 2; }", 5, 101}, {"switch b / 0 { default: trap 2; }", 5, api.TrapDiv},
		{"var p = new P(b / 0, new []i64());", 6, api.TrapDiv}, {"var p = new P(b, new []i64()); p.l[b] = p.x / 0;", 5 + 8, api.TrapDiv}, {"var p = new P(b, new []i64()); p.x = p.l[0];", 5 + 6, api.TrapIndex},
		{"f(a, b / 0);", 7, api.TrapDiv}, {"return b / 0;", 5, api.TrapDiv}, {"for ; ; b = b / 0 { }", 5 + 5, api.TrapDiv}, {"for ; b / 0 == 1; { }", 7, api.TrapDiv},
	} {
		t.Run(s.stmts, func(t *testing.T) {
			p := made(t, world+"fn f(a i8, b i64) i64 { "+s.stmts+" trap 99; }")
			answers(t, p, 2, []int64{5, 7}, trapped(s.rules, s.trap))
		})
	}
}

// What lies at the ends, and does not trap.
func TestP11_1Ends(t *testing.T) {
	for _, s := range []struct {
		typ, value string
		want       api.Value
	}{
		{"i32", "\"abc\"[0]", i32('a')}, {"i32", "\"abc\"[2]", i32('c')},
		{"bytes", "cut(\"abc\", 0, 3)", letters("abc")}, {"bytes", "cut(\"abc\", 3, 3)", letters("")}, {"bytes", "cut(\"abc\", 0, 0)", letters("")}, {"bytes", "cut(\"\", 0, 0)", letters("")}, {"bytes", "cut(\"abc\", 2, 3)", letters("c")},
		{"bytes", "byte(0i32) + byte(255i32)", letters("\x00\xff")},
		{"i8", "-128i8 / -1i8", i8(-128)}, {"i8", "-128i8 % -1i8", i8(0)}, {"i64", "9223372036854775808 / -1", i64(-1 << 63)},
		{"bool", "new [65536]bool(true)[65535]", truth(1)}, {"bool", "new [65536]bool(true)[0]", truth(1)},
	} {
		t.Run(s.value, func(t *testing.T) {
			a, wrong := asPlain(t, made(t, "fn f() "+s.typ+" { return "+s.value+"; }"), 0, nil, plenty)
			if wrong != api.OK || len(a.Values) != 1 || a.Values[0] != s.want {
				t.Errorf("%v, %d, want %v", a, wrong, s.want)
			}
		})
	}
}

// MaxCalls frames may be there at once, the first function's among them; the arguments of one more are worked out ahead of its trap.
func TestP11_1Depth(t *testing.T) {
	const down = "fn f(n i64) i64 { if n == 0 { return 5; } return f(n - 1); }"
	p := made(t, down)
	answers(t, p, 0, []int64{api.MaxCalls - 1}, values((api.MaxCalls-1)*11+8, i64(5)))
	answers(t, p, 0, []int64{api.MaxCalls}, trapped(api.MaxCalls*11, api.TrapDepth))
	answers(t, made(t, "fn f() { f(); }"), 0, nil, trapped(3*api.MaxCalls, api.TrapDepth))
	answers(t, made(t, "fn f() { g(); } fn g() { f(); }"), 1, nil, trapped(3*api.MaxCalls, api.TrapDepth))
	answers(t, made(t, "fn f(n i64) i64 { var x = n + 1; return f(x + 0 / (256 - x)); }"), 0, []int64{0}, trapped(256*14, api.TrapDiv))
	answers(t, made(t, "fn f(n i64) i64 { var x = n + 1; return f(x + 0 / (257 - x)); }"), 0, []int64{0}, trapped(256*14, api.TrapDepth))
	calls := made(t, down+" fn g() i64 { var s = 0; for var i = 0; i < 100; i = i + 1 { s = s + f(200) + f(254); f(i); } return s; }")
	a, wrong := asPlain(t, calls, 1, nil, plenty)
	if wrong != api.OK || len(a.Values) != 1 || a.Values[0] != i64(1000) {
		t.Errorf("frames that are over: %v, %d", a, wrong)
	}
}

// The slots of a frame are its own.
func TestP11_1Frames(t *testing.T) {
	for _, s := range []struct {
		source string
		want   int64
	}{
		{"fn f(a i64) i64 { var b = a; if a > 0 { var c = f(a - 1); return b * 100 + c + a; } return b; }", 606},
		{"fn f(a i64) i64 { var b = 1; g(b); g(a); return a * 10 + b; } fn g(n i64) { n = n + 70; var b = 9; var c = 8; }", 31},
		{"fn f(a i64) i64 { return g(g(1, a), g(a, 2)); } fn g(a i64, b i64) i64 { return a * 3 + b; }", 29},
		{"fn f(a i64) i64 { var l = new []i64(); g(l); g(l); return len(l) * a; } fn g(l []i64) { push(l, 1); l = new []i64(); push(l, 2); push(l, 3); }", 6},
		{"fn f(a i64) i64 { var x, y = g(a, 1); x, y = g(x, y); return x * 10 + y; } fn g(a i64, b i64) (i64, i64) { return b, a; }", 31},
		{"fn f(a i64) i64 { var s = 0; for var i = 0; i < a; i = i + 1 { var n = i; s = s + g(n); n = 77; } return s; } fn g(n i64) i64 { var i = n * 2; n = 9; return i; }", 6},
		{"fn f(a i64) i64 { return 1 + (2 + (3 + g(a, 4) * 2) + 5) + g(6, 7); } fn g(a i64, b i64) i64 { return h(a + 1) + b; } fn h(a i64) i64 { return a; }", 41},
	} {
		t.Run(s.source, func(t *testing.T) {
			a, wrong := asPlain(t, made(t, s.source), 0, []int64{3}, plenty)
			if wrong != api.OK || len(a.Values) != 1 || a.Values[0] != i64(s.want) {
				t.Errorf("%v, %d, want %d", a, wrong, s.want)
			}
		})
	}
}

// Records and arrays are had in common by all that name them; texts are told apart by what they are.
func TestP11_1Shared(t *testing.T) {
	const world = "record P { x i64; q Q; } record Q { l []P; t bytes; } "
	for _, s := range []struct {
		stmts string
		want  int64
	}{
		{"var p = new P(1, new Q(new []P(), \"\")); var q = p; q.x = 5; return p.x;", 5},
		{"var p = new P(1, new Q(new []P(), \"\")); push(p.q.l, p); p.q.l[0].q.l[0].x = 4; return p.x;", 4},
		{"var p = new P(1, new Q(new []P(), \"a\")); var w = new [3]P(p); w[1].x = 6; w[2] = new P(9, p.q); w[2].q.t = \"xyz\"; return w[0].x * 10 + len(p.q.t);", 63},
		{"var l = new []i64(); var k = l; push(k, 3); push(l, 4); var x = pop(k); return len(l) * 10 + l[0] + x;", 17},
		{"var w = new [2]i64(3); var v = w; v[0] = 8; w = new [2]i64(1); return v[0] * 10 + w[0];", 81},
		{"var w = new [2][]i64(new []i64()); push(w[0], 1); push(w[1], 2); return len(w[0]);", 2},
		{"var t = \"abc\"; var u = t; t = t + \"d\"; if u == \"abc\" && t == \"ab\" + \"cd\" && t != u { return 1; } return 0;", 1},
		{"var s = \"\"; for var i = 0; i < 3; i = i + 1 { var t = \"x\"; s = s + t; t = t + t; } return len(s);", 3},
	} {
		t.Run(s.stmts, func(t *testing.T) {
			a, wrong := asPlain(t, made(t, world+"fn f() i64 { "+s.stmts+" }"), 0, nil, plenty)
			if wrong != api.OK || len(a.Values) != 1 || a.Values[0] != i64(s.want) {
				t.Errorf("%v, %d, want %d", a, wrong, s.want)
			}
		})
	}
}

// Texts of MaxText bytes, and of one more; arrays of MaxArray elements, and one more; a heap that is full, and one word more.
func TestP11_1Sizes(t *testing.T) {
	const long = "var s = \"x\"; for var i = 0; i < 16; i = i + 1 { s = s + s; } "
	const many = "var l = new []bool(); for var i = 0; i < 65536; i = i + 1 { push(l, true); } "
	const fill = "for var i = 0; i < 15; i = i + 1 { new65535(); } var w = new [65534]i64(1); " // leaves one word
	const world = "fn new65535() { var w = new [65535]i8(1i8); } "
	words := 2 + 2 + 2 + 3 + 5 + 9 + 17 + 33 + 65 + 129 + 257 + 513 + 1025 + 2049 + 4097 + 8193
	for _, s := range []struct {
		stmts string
		want  int64
		trap  int
		words int
	}{
		{long + "return len(s);", 65536, 0, words},
		{long + "s = s + \"y\"; return len(s);", 0, api.TrapSize, words},
		{long + "s = s + \"\"; return len(s);", 65536, 0, words + 8193},
		{long + "s = cut(s, 0, 65536); return len(s);", 65536, 0, words + 8193},
		{long + "s = cut(s, 1, 65536) + \"y\"; return len(s);", 65536, 0, words + 2*8193},
		{long + "s = s + s; return len(s);", 0, api.TrapSize, words},
		{many + "return len(l);", 65536, 0, 65537},
		{many + "push(l, true); return len(l);", 0, api.TrapSize, 65537},
		{many + "var x = pop(l); push(l, x); return len(l);", 65536, 0, 65538},
		{fill + "var e = new []i8(); return 1;", 1, 0, api.MaxHeap},
		{fill + "var e = new []i8(); push(e, 1i8); return 1;", 0, api.TrapMemory, api.MaxHeap},
		{fill + "var e = new []i8(); var d = new []i8(); return 1;", 0, api.TrapMemory, api.MaxHeap},
		{fill + "var s = \"\" + \"\"; return 1;", 1, 0, api.MaxHeap},
		{fill + "var s = cut(\"a\", 0, 0); return 1;", 1, 0, api.MaxHeap},
		{fill + "var s = byte(1i32); return 1;", 0, api.TrapMemory, api.MaxHeap - 1},
		{fill + "var s = \"a\" + \"\"; return 1;", 0, api.TrapMemory, api.MaxHeap - 1},
		{fill + "var s = cut(\"a\", 0, 1); return 1;", 0, api.TrapMemory, api.MaxHeap - 1},
		{fill + "var v = new [1]i8(1i8); return 1;", 0, api.TrapMemory, api.MaxHeap - 1},
		{fill + "var s = \"abcdefghijk\"; return len(s);", 11, 0, api.MaxHeap - 1},
		{fill + "return w[65533] + w[0];", 2, 0, api.MaxHeap - 1},
		{fill + "new65535(); return 1;", 0, api.TrapMemory, api.MaxHeap - 1},
	} {
		name := strings.NewReplacer(long, "long ", many, "many ", fill, "fill ").Replace(s.stmts)
		t.Run(name, func(t *testing.T) {
			p := made(t, world+"fn f() i64 { "+s.stmts+" }")
			a, wrong := asPlain(t, p, 1, nil, 2*plenty)
			if wrong != api.OK || a.Trap != s.trap || s.trap == 0 && (len(a.Values) != 1 || a.Values[0] != i64(s.want)) {
				t.Errorf("%v, %d, want %d, %d", a, wrong, s.want, s.trap)
			}
			if got, wrong := Heap(p, 1, nil, 2*plenty); got != s.words || wrong != api.OK {
				t.Errorf("Heap: %d, %d, want %d", got, wrong, s.words)
			}
		})
	}
}
