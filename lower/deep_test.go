package lower

import (
	"testing"

	"trammel/api"
	"trammel/check"
)

// nest puts a term into so many others, one within the other; the outermost one has the number 0.
func nest(count int, x api.Term, around func(number int64, x api.Term) api.Term) api.Term {
	for i := range count {
		x = around(int64(count-1-i), x)
	}
	return x
}

// Bodies of as many terms as there may be, as deep in one another as they can be.
func TestP16_2Deep(t *testing.T) {
	none := term(api.SBlock)
	yes, no := valued(api.XTrue, api.Bool), valued(api.XFalse, api.Bool)
	block := func(x api.Term) api.Term { return term(api.SBlock, x) }
	put := func(x api.Term) api.Term { return numbered(api.SPut, int64(x.Type-1), x) }
	const d = api.MaxNodes
	for name, body := range map[string]api.Term{
		"blocks": nest(d-1, none, func(_ int64, x api.Term) api.Term { return block(x) }),
		"ifs":    nest(d/4-1, none, func(_ int64, x api.Term) api.Term { return block(term(api.SIf, yes, x, none)) }),
		"elses":  nest(d/4-1, none, func(_ int64, x api.Term) api.Term { return block(term(api.SIf, no, none, x)) }),
		"endless loops": nest(d/4-1, block(numbered(api.SBreak, 0)), func(n int64, x api.Term) api.Term {
			return block(numbered(api.SLoop, n, yes, x, none))
		}),
		"loops": nest(d/4-1, block(numbered(api.SNext, d/4-2)), func(n int64, x api.Term) api.Term {
			return block(numbered(api.SLoop, n, no, x, none))
		}),
		"cases": nest(d/7-1, block(numbered(api.SBreak, 7)), func(n int64, x api.Term) api.Term {
			return block(numbered(api.SSwitch, n, whole(api.I8, 1), term(api.SCase, whole(api.I8, n%128), x), none))
		}),
		"defaults": nest(d/4-1, block(numbered(api.SBreak, 7)), func(n int64, x api.Term) api.Term {
			return block(numbered(api.SSwitch, n, whole(api.I32, n), x))
		}),
		"signs": block(put(nest(d-3, whole(api.I64, 1), func(_ int64, x api.Term) api.Term { return valued(api.XNeg, api.I64, x) }))),
		"sums to the left": block(put(nest((d-3)/2, whole(api.I8, 1), func(_ int64, x api.Term) api.Term {
			return valued(api.XAdd, api.I8, x, whole(api.I8, -1))
		}))),
		"sums to the right": block(put(nest((d-3)/2, whole(api.I8, 1), func(_ int64, x api.Term) api.Term {
			return valued(api.XAdd, api.I8, whole(api.I8, -1), x)
		}))),
		"both to the left":   block(put(nest((d-3)/2, yes, func(_ int64, x api.Term) api.Term { return valued(api.XBoth, api.Bool, x, no) }))),
		"both to the right":  block(put(nest((d-3)/2, yes, func(_ int64, x api.Term) api.Term { return valued(api.XBoth, api.Bool, no, x) }))),
		"either by turns":    block(put(nest((d-3)/2, yes, func(n int64, x api.Term) api.Term { return valued(api.XBoth+uint8(n%2), api.Bool, x, no) }))),
		"texts to the right": block(put(nest((d-3)/2, text("a"), func(_ int64, x api.Term) api.Term { return valued(api.XAdd, api.Text, text("b"), x) }))),
	} {
		p := api.Program{Funcs: []api.Func{{Name: "f", Slots: []int{1, 2, 3, 4, 5}, Body: body}}}
		if wrong := check.Valid(p); wrong != api.OK {
			t.Fatalf("%s: %d", name, wrong)
		}
		asPlain(t, p)
	}
}

// As many terms as there may be, one behind the other: a code may be longer than a module's may.
func TestP16_3Wide(t *testing.T) {
	const d = api.MaxNodes
	list := make([]api.Term, (d-1)/2)
	for i := range list {
		list[i] = numbered(api.SPut, int64(i%2), whole(api.I64, int64(i)))
	}
	p := api.Program{Funcs: []api.Func{{Name: "f", Slots: []int{api.I64, api.I64}, Body: term(api.SBlock, list...)}}}
	if size, wrong := Size(p, 0); wrong != api.OK || size != 12*len(list)+1 {
		t.Errorf("puts: %d, %d", size, wrong)
	}
	asPlain(t, p)

	// arms that stand from the greatest number down, all of one case, and each of its own
	kids := []api.Term{}
	for i := range d - 6 {
		kids = append(kids, whole(api.I32, int64(d-i)))
	}
	one := numbered(api.SSwitch, 0, whole(api.I32, 5), term(api.SCase, append(kids, term(api.SBlock))...), term(api.SBlock))
	p.Funcs[0].Body = term(api.SBlock, one)
	if size, wrong := Size(p, 0); wrong != api.OK || size != 5+8+12*len(kids)+5+1 {
		t.Errorf("a case: %d, %d", size, wrong)
	}
	asPlain(t, p)
	kids = kids[:(d-4)/3]
	each := []api.Term{whole(api.I32, 5)}
	for _, x := range kids {
		each = append(each, term(api.SCase, x, term(api.SBlock)))
	}
	p.Funcs[0].Body = term(api.SBlock, numbered(api.SSwitch, 0, append(each, term(api.SBlock))...))
	if size, wrong := Size(p, 0); wrong != api.OK || size != 5+8+17*len(kids)+1 {
		t.Errorf("cases: %d, %d", size, wrong)
	}
	asPlain(t, p)
}

func TestP16_3Sources(t *testing.T) {
	for source, want := range map[string]int{
		"fn f() { }":                                             1,
		"fn f() i8 { trap 1; }":                                  4,
		"fn f() i8 { return 1i8; }":                              5,
		"fn f() i32 { return 1i32; }":                            8,
		"fn f() i64 { return 1; }":                               12,
		"fn f(a i8) i8 { return a + 1i8; }":                      10,
		"fn f() (bool, bytes) { return true, \"\"; }":            7,
		"fn f(a i8) { if a < 0i8 { } }":                          3 + 2 + 2 + 5 + 5 + 1,
		"fn f(a i8) { switch a { } }":                            3 + 8 + 1,
		"fn f(a i8) { switch a { case 1, 2: case 3: trap 1; } }": 3 + 8 + 3*12 + 5 + 2 + 5 + 1,
		"fn f(a i8) { while true { } }":                          5 + 1,
		"record P { x i8; } fn f(p P) { p.x = p.x; }":            3 + 3 + 5 + 5 + 1,
		"fn f(a []i8) { a[0] = i8(len(a)); }":                    3 + 9 + 3 + 3 + 3 + 3 + 1,
	} {
		p := made(t, source)
		if size, wrong := Size(p, 0); wrong != api.OK || size != want {
			t.Errorf("%s: %d, %d, want %d", source, size, wrong, want)
		}
	}
}
