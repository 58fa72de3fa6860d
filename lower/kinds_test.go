package lower

import (
	"fmt"
	"strings"
	"testing"
)

// world is what stands around the bodies of these tests: f's slots are 0 to 7; P is 16, Q 17, E 18, []i64 19, [3]i8 20, what else a
// body names comes then; f is the function 0, none 1, one 2, two 3, many 4.
const world = `record P { x i64; q Q; t bytes; } record Q { n i8; o bool; } record E { }
fn f(a i8, b i32, c i64, o bool, t bytes, p P, l []i64, k [3]i8) { %s }
fn none() { }
fn one(a i8, t bytes) i64 { return 1; }
fn two() (i64, bool) { return 1, true; }
fn many(w []bytes, v [2][]i64) (i8, i8, i8, i8, i8, i8, i8, i8) { return 1i8, 1i8, 1i8, 1i8, 1i8, 1i8, 1i8, 1i8; }`

// bodies holds bodies of f, which has no results, to their lines; what f itself puts at its end is left out.
func bodies(t *testing.T, table map[string]string) {
	t.Helper()
	for body, want := range table {
		lowers(t, fmt.Sprintf(world, body), strings.TrimPrefix(want+"; return", "; "))
	}
}

func TestP16_2Numbers(t *testing.T) {
	bodies(t, map[string]string{
		"a = 0i8;":                    "i8 0; put 0",
		"a = 127i8;":                  "i8 127; put 0",
		"a = 128i8;":                  "i8 -128; put 0",
		"a = 255i8;":                  "i8 -1; put 0",
		"a = -128i8;":                 "i8 -128; neg 1; put 0",
		"b = 0i32;":                   "i32 0; put 1",
		"b = 2147483647i32;":          "i32 2147483647; put 1",
		"b = 2147483648i32;":          "i32 -2147483648; put 1",
		"b = 4294967295i32;":          "i32 -1; put 1",
		"c = 0;":                      "i64 0; put 2",
		"c = 300;":                    "i64 300; put 2",
		"c = 9223372036854775807i64;": "i64 9223372036854775807; put 2",
		"c = 9223372036854775808;":    "i64 -9223372036854775808; put 2",
		"c = 18446744073709551615;":   "i64 -1; put 2",
	})
}

func TestP16_2Values(t *testing.T) {
	bodies(t, map[string]string{
		"o = true;":                           "true; put 3",
		"o = false;":                          "false; put 3",
		"t = \"x\";":                          "text 0; put 4",
		"t = \"x\" + \"\" + \"x\";":           "text 0; text 1; cat; text 0; cat; put 4",
		"o = o;":                              "get 3; put 3",
		"c = one(a, t);":                      "get 0; get 4; call 2; put 2",
		"c = one(1i8, \"y\") + one(a, \"\");": "i8 1; text 0; call 2; get 0; text 1; call 2; add 3; put 2",
		"a = i8(a);":                          "get 0; conv 1 1; put 0",
		"b = i32(a);":                         "get 0; conv 1 2; put 1",
		"c = i64(a);":                         "get 0; conv 1 3; put 2",
		"a = i8(b);":                          "get 1; conv 2 1; put 0",
		"b = i32(b);":                         "get 1; conv 2 2; put 1",
		"c = i64(b);":                         "get 1; conv 2 3; put 2",
		"a = i8(c);":                          "get 2; conv 3 1; put 0",
		"b = i32(c);":                         "get 2; conv 3 2; put 1",
		"c = i64(c);":                         "get 2; conv 3 3; put 2",
		"p = new P(c, new Q(a, o), t);":       "get 2; get 0; get 3; new 17; get 4; new 16; put 5",
		"var e = new E();":                    "new 18; put 8",
		"k = new [3]i8(a);":                   "get 0; fill 20; put 7",
		"l = new []i64();":                    "empty 19; put 6",
		"var v = new [2][]i64(new []i64());":  "empty 19; fill 21; put 8",
		"c = p.x;":                            "get 5; field 16 0; put 2",
		"t = p.t;":                            "get 5; field 16 2; put 4",
		"o = p.q.o;":                          "get 5; field 16 1; field 17 1; put 3",
		"c = l[c];":                           "get 6; get 2; at 19; put 2",
		"a = k[2];":                           "get 7; i64 2; at 20; put 0",
		"b = t[0];":                           "get 4; i64 0; charat; put 1",
		"b = (t + t)[c];":                     "get 4; get 4; cat; get 2; charat; put 1",
		"c = len(t);":                         "get 4; size; put 2",
		"c = len(l);":                         "get 6; len 19; put 2",
		"c = len(k);":                         "get 7; len 20; put 2",
		"t = cut(t, 0, c);":                   "get 4; i64 0; get 2; cut; put 4",
		"t = byte(b);":                        "get 1; byte; put 4",
		"c = pop(l);":                         "get 6; drop 19; put 2",
		"a = -a;":                             "get 0; neg 1; put 0",
		"b = -b;":                             "get 1; neg 2; put 1",
		"c = -c;":                             "get 2; neg 3; put 2",
		"a = ~a;":                             "get 0; not 1; put 0",
		"b = ~b;":                             "get 1; not 2; put 1",
		"c = ~-c;":                            "get 2; neg 3; not 3; put 2",
		"o = !o;":                             "get 3; flip; put 3",
		"o = !!o;":                            "get 3; flip; flip; put 3",
	})
}

// Each sign between two parts of each type that it may have: the width is that of the parts.
func TestP16_2Signs(t *testing.T) {
	locals := map[string]int{"a": 1, "b": 2, "c": 3, "o": 4, "t": 5}
	signs := map[string]string{
		"+": "add", "-": "sub", "*": "mul", "/": "div", "%": "rem", "&": "and", "|": "or", "^": "xor", "<<": "shl", ">>": "shr",
		"==": "eq", "!=": "ne", "<": "lt", "<=": "le", ">": "gt", ">=": "ge",
	}
	tests := " == != < <= > >= "
	for sign, name := range signs {
		for local, typ := range locals {
			if typ > 3 && sign != "==" && sign != "!=" {
				continue
			}
			to := local
			if strings.Contains(tests, " "+sign+" ") {
				to = "o"
			}
			slot, toSlot := locals[local]-1, locals[to]-1
			bodies(t, map[string]string{
				fmt.Sprintf("%s = %s %s %s;", to, local, sign, local): fmt.Sprintf("get %d; get %d; %s %d; put %d", slot, slot, name, typ, toSlot),
			})
		}
	}
	bodies(t, map[string]string{
		"t = t + \"a\";":       "get 4; text 0; cat; put 4",
		"c = 1 - (2 - c) * 3;": "i64 1; i64 2; get 2; sub 3; i64 3; mul 3; sub 3; put 2",
		"o = (1 < 2) == o;":    "i64 1; i64 2; lt 3; get 3; eq 4; put 3",
	})
}

func TestP16_2BothAndEither(t *testing.T) {
	bodies(t, map[string]string{
		"o = o && true;":            "get 3; dup; unless L0; pop; true; L0:; put 3",
		"o = o || true;":            "get 3; dup; when L0; pop; true; L0:; put 3",
		"o = o && true && false;":   "get 3; dup; unless L0; pop; true; L0:; dup; unless L1; pop; false; L1:; put 3",
		"o = o && (true && false);": "get 3; dup; unless L0; pop; true; dup; unless L0; pop; false; L0:; put 3",
		"o = o || true || false;":   "get 3; dup; when L0; pop; true; L0:; dup; when L1; pop; false; L1:; put 3",
		"o = o || (true || false);": "get 3; dup; when L0; pop; true; dup; when L0; pop; false; L0:; put 3",
		"o = o && true || false;":   "get 3; dup; unless L0; pop; true; L0:; dup; when L1; pop; false; L1:; put 3",
		"o = o || true && false;":   "get 3; dup; when L0; pop; true; dup; unless L0; pop; false; L0:; put 3",
		"o = (o || true) && false;": "get 3; dup; when L0; pop; true; L0:; dup; unless L1; pop; false; L1:; put 3",
		"o = !(o && !true);":        "get 3; dup; unless L0; pop; true; flip; L0:; flip; put 3",
		"if o && o { none(); }":     "get 3; dup; unless L0; pop; get 3; L0:; unless L1; call 1; jump L1; L1:",
	})
}

func TestP16_2Statements(t *testing.T) {
	bodies(t, map[string]string{
		"":                           "",
		"{ } { { } }":                "",
		"{ a = 1i8; { b = 2i32; } }": "i8 1; put 0; i32 2; put 1",
		"var x = c; x = x; { var x = o; x = x; } x = c;": "get 2; put 8; get 8; put 8; get 3; put 9; get 9; put 9; get 2; put 8",
		"var x, y = two();": "call 3; put 9; put 8",
		"c, o = two();":     "call 3; put 3; put 2",
		"var x, y = two(); { var z = x; c, y = two(); }": "call 3; put 9; put 8; get 8; put 10; call 3; put 9; put 2",
		"p.x = c;":                              "get 5; get 2; setfield 16 0",
		"p.q.n = a;":                            "get 5; field 16 1; get 0; setfield 17 0",
		"p.t = p.t + t;":                        "get 5; get 5; field 16 2; get 4; cat; setfield 16 2",
		"l[0] = c;":                             "get 6; i64 0; get 2; setat 19",
		"k[len(k)] = k[0];":                     "get 7; get 7; len 20; get 7; i64 0; at 20; setat 20",
		"none();":                               "call 1",
		"one(a, t);":                            "get 0; get 4; call 2; pop",
		"two();":                                "call 3; pop; pop",
		"many(new []bytes(), new [2][]i64(l));": "empty 21; get 6; fill 22; call 4; pop; pop; pop; pop; pop; pop; pop; pop",
		"f(a, b, c, o, t, p, l, k);":            "get 0; get 1; get 2; get 3; get 4; get 5; get 6; get 7; call 0",
		"push(l, c);":                           "get 6; get 2; push 19",
		"push(l, pop(l));":                      "get 6; get 6; drop 19; push 19",
		"var w = new []bytes(); push(w, \"\");": "empty 21; put 8; get 8; text 0; push 21",
		"return;":                               "return",
		"return; return;":                       "return; return",
		"trap 0;":                               "trap 0",
		"trap 255; none();":                     "trap 255; call 1",
		"a, a, a, a, a, a, a, a = many(new []bytes(), new [2][]i64(l));": "empty 21; get 6; fill 22; call 4; put 0; put 0; put 0; put 0; put 0; put 0; put 0; put 0",
	})
}
