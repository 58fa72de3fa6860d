package eval

import (
	"testing"

	"trammel/api"
)

// What a run makes is counted: as chapter 10 tells what things cost; a text of the program costs nothing.
func TestP11_2Heap(t *testing.T) {
	const world = "record P { x i64; y bytes; } record E { } fn text() bytes { return \"ab\" + \"c\"; } "
	for _, s := range []struct {
		stmts string
		words int
	}{
		{"", 0},
		{"var a = 1; var b = true; a = a * 77; b = !b;", 0},
		{"var s = \"abcdefghijklmnop\"; s = \"\"; var n = s == \"a\";", 0},
		{"var s = \"\" + \"\";", 1},
		{"var s = \"abcd\" + \"efgh\";", 2},
		{"var s = \"abcd\" + \"efghi\";", 3},
		{"var s = cut(\"abcdefghi\", 0, 9);", 3},
		{"var s = cut(\"abcdefghi\", 1, 9);", 2},
		{"var s = cut(\"abcdefghi\", 9, 9);", 1},
		{"var s = byte(7i32);", 2},
		{"var s = \"a\" + \"b\" + \"c\";", 4},
		{"var p = new P(1, \"\");", 3},
		{"var e = new E();", 1},
		{"var w = new [5]i8(1i8);", 6},
		{"var w = new [5]E(new E());", 7},
		{"var l = new []i8();", 1},
		{"var l = new []i8(); push(l, 1i8); push(l, 2i8);", 3},
		{"var l = new []i8(); push(l, 1i8); var x = pop(l); push(l, 2i8); x = pop(l);", 3},
		{"var p = new P(1, \"\"); p.x = 5; p.y = \"abc\"; var q = p; var n = p.x + len(p.y);", 3},
		{"var w = new [2]i64(3); w[0] = 9; var n = w[1] + len(w);", 3},
		{"text(); text();", 4},
		{"for var i = 0; i < 10; i = i + 1 { var p = new P(i, text()); }", 50},
		{"if false { var p = new P(1, text()); }", 0},
		{"var o = true || text() == \"\";", 0},
		{"var o = false || text() == \"\";", 2},
		{"var l = new []bytes(); push(l, text()); trap 1;", 4},
		{"var l = new []bytes(); push(l, text() + byte(300i32));", 3},
		{"var p = new P(1 / 0, text());", 0},
		{"var p = new P(len(text()) / 0, \"\");", 2},
		{"var w = new [3]i8(1i8); w[3] = w[0];", 4},
		{"f();", 0},
		{"var w = new []i8(); f();", 256},
	} {
		t.Run(s.stmts, func(t *testing.T) {
			p := made(t, world+"fn f() { "+s.stmts+" }")
			a, _ := asPlain(t, p, 1, nil, plenty)
			if words, wrong := Heap(p, 1, nil, plenty); words != s.words || wrong != api.OK {
				t.Errorf("%d, %d, want %d", words, wrong, s.words)
			}
			if words, wrong := Heap(p, 1, nil, int64(a.Steps)-1); words != 0 || wrong != api.ErrFuel {
				t.Errorf("one rule fewer: %d, %d", words, wrong)
			}
		})
	}
}
