package lower

import (
	"fmt"
	"slices"
	"strings"
	"testing"

	"trammel/api"
	"trammel/check"
	"trammel/linear"
	"trammel/parse"
)

// made tells the program of a source that is right.
func made(t testing.TB, s string) api.Program {
	t.Helper()
	n, place, wrong := parse.Source(s)
	if wrong != api.OK {
		t.Fatalf("%s: %d at %d", s, wrong, place)
	}
	p, place, wrong := check.Program(n)
	if wrong != api.OK {
		t.Fatalf("%s: %d at %d", s, wrong, place)
	}
	return p
}

// written tells lines as they are written, with a ; between them.
func written(t testing.TB, l []api.Line) string {
	t.Helper()
	s, wrong := linear.Text(l)
	if wrong != api.OK {
		t.Fatalf("lines that may not be: %d", wrong)
	}
	return strings.Join(strings.Split(strings.ReplaceAll(strings.TrimSuffix(s, "\n"), "\t", ""), "\n"), "; ")
}

// short cuts what a test tells.
func short(v any) string {
	s := fmt.Sprint(v)
	return s[:min(len(s), 2000)]
}

// asPlain holds all functions of a program that may be lowered to the second reading.
func asPlain(t testing.TB, p api.Program) {
	t.Helper()
	texts, wrong := Texts(p)
	if want := plainTexts(p); wrong != api.OK || !slices.Equal(texts, want) {
		t.Fatalf("%s: texts %s, %d, want %s", short(p), short(texts), wrong, short(want))
	}
	for i := range p.Funcs {
		l, wrong := Func(p, i)
		want := plainFunc(p, i)
		if got := written(t, l); wrong != api.OK || got != strings.Join(want, "; ") {
			t.Fatalf("function %d of %s:\n%s, %d\nwant\n%s", i, short(p), short(got), wrong, short(strings.Join(want, "; ")))
		}
		if size, wrong := Size(p, i); wrong != api.OK || size != plainSize(want) {
			t.Fatalf("function %d of %s: size %d, %d, want %d", i, short(p), size, wrong, plainSize(want))
		}
	}
}

// lowers holds the first function of a source to its lines.
func lowers(t *testing.T, source, want string) {
	t.Helper()
	p := made(t, source)
	l, wrong := Func(p, 0)
	if got := written(t, l); wrong != api.OK || got != want {
		t.Errorf("%s\n%s, %d\nwant\n%s", source, got, wrong, want)
	}
	asPlain(t, p)
}

// refuses holds all calls to an error, and to their telling nothing else.
func refuses(t *testing.T, name string, p api.Program, i int, want api.Errno) {
	t.Helper()
	if l, wrong := Func(p, i); wrong != want || len(l) > 0 {
		t.Errorf("%s: Func(%d): %d lines, %d, want %d", name, i, len(l), wrong, want)
	}
	if size, wrong := Size(p, i); wrong != want || size != 0 {
		t.Errorf("%s: Size(%d): %d, %d, want %d", name, i, size, wrong, want)
	}
}

// refusesAll holds Texts to an error, too, and Func at all places.
func refusesAll(t *testing.T, name string, p api.Program, want api.Errno) {
	t.Helper()
	if l, wrong := Texts(p); wrong != want || len(l) > 0 {
		t.Errorf("%s: Texts: %d, %d, want %d", name, len(l), wrong, want)
	}
	for i := -1; i <= len(p.Funcs); i++ {
		refuses(t, name, p, i, want)
	}
}

// The chapter's examples.
func TestP16_2Examples(t *testing.T) {
	for body, want := range map[string]string{
		"return a;":                               "get 0; return; trap 0",
		"return a + 1i8;":                         "get 0; i8 1; add 1; return; trap 0",
		"if o { return a; } return 2i8;":          "get 1; unless L0; get 0; return; jump L0; L0:; i8 2; return; trap 0",
		"while o && a > 0i8 { break; } return a;": "L0:; get 1; dup; unless L1; pop; get 0; i8 0; gt 1; L1:; unless L2; jump L2; jump L0; L2:; get 0; return; trap 0",
		"switch a { case 3, -1: a = 0i8; default: trap 9; } return a;": "get 0; switch 1 -1:L0 3:L0 L1; L0:; i8 0; put 0; jump L2; L1:; trap 9; L2:; get 0; return; trap 0",
	} {
		lowers(t, "fn f(a i8, o bool) i8 { "+body+" }", want)
	}
	lowers(t, "fn g() { }", "return")
}
