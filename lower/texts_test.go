package lower

import (
	"slices"
	"strconv"
	"testing"

	"trammel/api"
	"trammel/check"
	"trammel/linear"
)

// tells holds Texts to what is wanted.
func tells(t *testing.T, source string, want ...string) {
	t.Helper()
	p := made(t, source)
	if got, wrong := Texts(p); wrong != api.OK || !slices.Equal(got, want) {
		t.Errorf("%s: %q, %d, want %q", source, got, wrong, want)
	}
	asPlain(t, p)
}

func TestP16_1Sources(t *testing.T) {
	tells(t, "")
	tells(t, "record P { t bytes; } fn f(t bytes) { t = t; } fn g() { }")
	tells(t, `fn f() bytes { return "a"; }`, "a")
	tells(t, `fn f() bytes { return ""; }`, "")
	tells(t, `fn f(t bytes) { t = "" + "a" + ""; }`, "", "a")
	tells(t, `fn f(t bytes) { t = "a" + "A"; t = "a " + " a"; t = "aa" + "a"; }`, "a", "A", "a ", " a", "aa")
	tells(t, `fn f(t bytes) { t = "\x00" + "\xff"; t = "\x00\x00" + "\xff"; }`, "\x00", "\xff", "\x00\x00")
	tells(t, `fn f() { return; trap 1; var a = "x"; }`, "x")
}

// In several functions: the order is that of the functions, whether they are called or not.
func TestP16_1Functions(t *testing.T) {
	tells(t, `fn f() bytes { return "b" + ("a" + "b"); } fn g() { f(); } fn h() bytes { return "c" + "a"; }`, "b", "a", "c")
	tells(t, `fn f() { g("1", "2"); } fn g(a bytes, b bytes) { g("3", "1"); }`, "1", "2", "3")
	tells(t, `fn g(a bytes, b bytes) { g("3", "1"); } fn f() { g("1", "2"); }`, "3", "1", "2")
	tells(t, `fn f() { } fn g(a bytes) { a = "1"; } fn h() { } fn i(a bytes) { a = "1" + "0"; }`, "1", "0")
}

// Where a text can stand: of each term its Kids in their order (of a for the third part behind the second one).
func TestP16_1Places(t *testing.T) {
	five := []string{"1", "2", "3", "4", "5"}
	tells(t, `fn f(t bytes) { if t == "1" { t = "2"; } else if t == "3" { t = "4"; } else { t = "5"; } }`, five...)
	tells(t, `fn f(t bytes) { while t == "1" { t = "2"; } t = "3"; }`, five[:3]...)
	tells(t, `fn f() { for var t = "1"; t == "2"; t = "4" { t = "3"; } { var t = "5"; } }`, five...)
	tells(t, `fn f(t bytes) { switch len("1") { default: t = "2"; } }`, five[:2]...)
	tells(t, `fn f(t bytes) { switch len("1") { case 3: t = "2"; case 1: t = "3"; default: t = "4"; } t = "5"; }`, five...)
	tells(t, `fn f(a []bytes) { a[len("1")] = "2"; push(a, "3"); a[len("4")] = pop(a) + "5"; }`, five...)
	tells(t, `record P { t bytes; n i32; } fn f(p P) P { p.t = "1"; return new P(cut("2", len("3"), len("4")), "5"[0]); }`, five...)
	tells(t, `fn f(o bool) { o = ("1" == "2") && ("3" != "4") || ("2" == "5"); o = !("3" == "4"); }`, five...)
	tells(t, `fn f(t bytes) bytes { var a, b = g("1"); b, a = g("2"); g("3"); return f(f("4")); } fn g(t bytes) (bytes, bytes) { return "5", "1"; }`, five...)
	tells(t, `fn f() (bytes, i8) { var a = new [2]bytes("1"); return byte("2"[len("3") - len("4")]), i8(-len("5")); }`, five...)
}

// An instruction can name 65536 texts. A function by hand that names one behind these has no normal lines.
func TestP16_1ManyTexts(t *testing.T) {
	const half = 1 << 15
	var p api.Program
	for _, name := range []string{"f", "g", "h"} {
		f := api.Func{Name: name, Slots: []int{api.Text}, Body: term(api.SBlock)}
		for range half - 1 {
			f.Body.Kids = append(f.Body.Kids, numbered(api.SPut, 0, text(strconv.Itoa(len(p.Funcs)*half+len(f.Body.Kids)))))
		}
		p.Funcs = append(p.Funcs, f)
	}
	p.Funcs[2].Body.Kids = p.Funcs[2].Body.Kids[:3] // the third one names the places 65534, 65535 and 65536
	if wrong := check.Valid(p); wrong != api.OK {
		t.Fatal(wrong)
	}
	texts, wrong := Texts(p)
	if wrong != api.OK || len(texts) != 2*half+1 || texts[2*half] != strconv.Itoa(2*half+2) || !slices.Equal(texts, plainTexts(p)) {
		t.Fatalf("%d texts, %d", len(texts), wrong)
	}
	for i := range 2 {
		l, wrong := Func(p, i)
		if wrong != api.OK || len(l) != 2*(half-1)+1 || l[2*(half-2)].X.A != int64((i+1)*(half-1)-1) {
			t.Errorf("%d: %d lines, %d", i, len(l), wrong)
		}
	}
	_, want := linear.Normal([]api.Line{instr(api.OpText, 2*half)})
	refuses(t, "a text that no instruction can name", p, 2, want)
	p.Funcs[2].Body.Kids = p.Funcs[2].Body.Kids[:2]
	if l, wrong := Func(p, 2); wrong != api.OK || written(t, l) != "text 65534; put 0; text 65535; put 0; return" {
		t.Errorf("the last two that can be named: %d, %d", len(l), wrong)
	}
}
