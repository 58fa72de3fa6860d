package flow

import (
	"testing"

	"trammel/api"
)

// sample is a term with what is wanted of it.
type sample struct {
	name            string
	term            api.Term
	ends            bool
	reached, missed int
}

func holdAll(t *testing.T, list ...sample) {
	t.Helper()
	for _, s := range list {
		holds(t, s.name, s.term, s.ends, s.reached, s.missed)
		asPlain(t, s.term)
	}
}

// The table of the chapter, and statements beside it.
func TestP9_1_2Examples(t *testing.T) {
	for _, s := range []struct {
		stmts           string
		ends            bool
		reached, missed int
	}{
		{"", true, 1, 0},
		{"return;", false, 2, 0},
		{"return; f(); f();", false, 2, 2},
		{"if a { return; }", true, 5, 0},
		{"if a { return; } else { trap 1; } f();", false, 6, 1},
		{"while true { }", false, 4, 0},
		{"while a { }", true, 4, 0},
		{"while true { break; }", true, 4, 1},
		{"while true { return; break; }", false, 4, 2},
		{"L: while true { while true { break L; } }", true, 6, 2},
		{"switch n { case 1: return; default: return; }", false, 6, 0},
		{"switch n { case 1: return; }", true, 5, 0},
		{"switch n { case 1: return; default: break; }", true, 6, 0},

		{"trap 0; f();", false, 2, 1},
		{"f(); n = 1; a = !a; f();", true, 5, 0},
		{"{ { return; } f(); } f();", false, 4, 2},
		{"if a { f(); } else { return; } f();", true, 7, 0},
		{"if true { return; } f();", true, 6, 0},
		{"if false { } else { return; } f();", true, 6, 0},
		{"if a { return; } else if a { trap 1; } else { return; } f();", false, 10, 1},
		{"while false { f(); } f();", true, 6, 0},
		{"while a || true { }", true, 4, 0},
		{"while !false { return; } f();", true, 5, 1},
		{"while true { if a { break; } } f();", true, 9, 0},
		{"while true { continue; f(); }", false, 5, 1},
		{"while true { while true { break; } }", false, 7, 1},
		{"for ; ; { }", false, 5, 0},
		{"for ; true; f() { return; }", false, 5, 2},
		{"for ; ; f() { continue; }", false, 7, 0},
		{"for var i = 0; i < n; i = i + 1 { trap 1; }", true, 6, 2},
		{"for ; ; f() { if a { continue; } return; }", false, 11, 0},
		{"L: for ; ; f() { for ; ; f() { continue L; } }", false, 10, 2},
		{"L: for ; ; f() { for ; ; f() { break L; } f(); }", true, 8, 5},
		{"switch n { }", true, 3, 0},
		{"switch n { default: return; } f();", false, 4, 1},
		{"switch n { case 1: f(); case 2: return; default: return; } f();", true, 9, 0},
		{"switch n { case 1, 2, 3: break; f(); default: trap 1; } f();", true, 7, 1},
		{"L: while true { switch n { case 1: break; default: continue; } break L; }", true, 10, 0},
		{"while true { switch n { case 1: continue; default: return; } f(); }", false, 9, 1},
		{"L: while true { switch n { default: break L; } }", true, 6, 1},
		{"while true { switch n { default: break; } }", false, 7, 0},
	} {
		x := body(t, s.stmts)
		holdAll(t, sample{s.stmts, x, s.ends, s.reached, s.missed})
	}
}

func TestP9_1_2Kinds(t *testing.T) {
	for op := range 256 {
		x := api.Term{Op: uint8(op)}
		switch x.Op {
		case api.SBreak, api.SNext, api.SReturn, api.STrap:
			holds(t, "does not end", x, false, 1, 0)
			holds(t, "does not end, in a block", block(x, doing), false, 2, 1)
		case api.SIf, api.SLoop:
			holds(t, "two parts that are missing", x, true, 3, 0)
			holds(t, "two parts that are missing, in a block", block(x, doing), true, 5, 0)
		case api.SSwitch:
			holds(t, "a last part that is missing", x, true, 2, 0)
			holds(t, "a last part that is missing, in a block", block(x, doing), true, 4, 0)
		default:
			holds(t, "ends", x, true, 1, 0)
			holds(t, "ends, in a block", block(x, doing), true, 3, 0)
		}
	}
}

// Each kind of term as each of the Kids of each other one, alone and with others beside it, within a loop of the same number.
func TestP9_1_2EachInEach(t *testing.T) {
	for outer := range 256 {
		for inner := range 80 {
			for at := range 4 {
				kids := []api.Term{may, doing, doing, doing}
				kids[at] = api.Term{Op: uint8(inner), N: 1, Kids: []api.Term{yes, left(1)}}
				for count := at; count <= 4; count++ {
					x := api.Term{Op: uint8(outer), N: 1, Kids: kids[:count]}
					asPlain(t, x)
					asPlain(t, loop(1, yes, x, doing))
				}
			}
		}
	}
}

// What the Kids of other terms are does not matter: no statements, no breaks.
func TestP9_1_2OtherKids(t *testing.T) {
	stmts := []api.Term{back, left(1), next(1), block(doing, back), loop(2, yes), choice(1, one, back)}
	for op := range 256 {
		switch uint8(op) {
		case api.SBlock, api.SIf, api.SLoop, api.SSwitch:
			continue
		case api.SBreak, api.SNext, api.SReturn, api.STrap:
			holds(t, "does not end", api.Term{Op: uint8(op), Kids: stmts}, false, 1, 0)
			continue
		}
		x := api.Term{Op: uint8(op), N: 1, Kids: stmts}
		holds(t, "alone", x, true, 1, 0)
		holds(t, "in a loop", loop(1, yes, block(x)), false, 4, 0)
		holds(t, "in an if", branch(x, x, x), true, 3, 0)
		holds(t, "as a value", choice(1, x, arm(x, x), doing), true, 3, 0)
	}
	holds(t, "a test", loop(1, block(left(1)), none, none), true, 3, 0)
	holds(t, "a test of an if", branch(back, none, none), true, 3, 0)
	holds(t, "a value", choice(1, back), true, 2, 0)
	holds(t, "numbers of a case", choice(1, one, arm(left(1), back, back), back), false, 3, 0)
	holds(t, "Kids too many", branch(may, back, back, doing, doing), false, 3, 0)
	holds(t, "Kids too many", loop(1, yes, none, none, left(1), doing), false, 3, 0)
}

// An SCase counts as one just where it stands among a switch's Kids; what else stands there is none of its parts, but for the last.
func TestP9_1_2Cases(t *testing.T) {
	holdAll(t,
		sample{"alone", arm(one, back), true, 1, 0},
		sample{"in a block", block(arm(one, back), doing), true, 3, 0},
		sample{"the last part of a case", choice(1, one, arm(one, arm(one, back)), back), true, 3, 0},
		sample{"no case", choice(1, one, back), false, 2, 0},
		sample{"no case, a last part that ends", choice(1, one, none), true, 2, 0},
		sample{"no case, a last part that is left", choice(1, one, block(left(1), doing)), true, 3, 1},
		sample{"all end", choice(1, one, arm(one, none), arm(one, none), none), true, 4, 0},
		sample{"the first ends", choice(1, one, arm(one, none), arm(one, back), fall), true, 4, 0},
		sample{"the second ends", choice(1, one, arm(one, back), arm(one, none), fall), true, 4, 0},
		sample{"the last part ends", choice(1, one, arm(one, back), arm(one, fall), none), true, 4, 0},
		sample{"none ends", choice(1, one, arm(one, back), arm(one, fall), block(back)), false, 5, 0},
		sample{"the first is left", choice(1, one, arm(one, left(1)), arm(one, back), fall), true, 4, 0},
		sample{"the last part is left", choice(1, one, arm(one, back), left(1)), true, 3, 0},
		sample{"another one is left", choice(1, one, arm(one, left(2)), left(0)), false, 3, 0},
		sample{"gone on with", choice(1, one, arm(one, next(1)), next(1)), false, 3, 0},
		sample{"left behind what does not end", choice(1, one, arm(one, block(back, left(1))), back), false, 4, 1},
		sample{"cases behind one that does not end are come to", choice(1, one, arm(one, back), arm(one, doing), back), true, 4, 0},
		sample{"a case without Kids", choice(1, one, arm(), back), true, 3, 0},
		sample{"a case of one Kid", choice(1, one, arm(back), back), false, 3, 0},
		sample{"a case of many numbers", choice(1, one, arm(one, one, one, block(back)), back), false, 4, 0},
		sample{"no default", choice(1, one, arm(one, back)), true, 3, 0},
		sample{"no default, two cases", choice(1, one, arm(one, block(back)), arm(one, back)), true, 5, 0},
		sample{"what is no case", choice(1, one, none, left(1), back, doing, back), false, 2, 0},
		sample{"a case as the value", choice(1, arm(one, left(1)), back), false, 2, 0},
		sample{"a case as the one Kid", loop(1, yes, choice(2, arm(one, left(1))), doing), false, 4, 0},
		sample{"a last case that leaves a loop", loop(1, yes, choice(2, one, arm(one, left(1))), doing), true, 5, 0},
		sample{"not come to", block(back, choice(1, one, arm(one, left(1)), none)), false, 2, 3},
	)
}

func TestP9_1_2Loops(t *testing.T) {
	holdAll(t,
		sample{"for ever", loop(1, yes, none, none), false, 3, 0},
		sample{"with a test", loop(1, may, none, none), true, 3, 0},
		sample{"with a test that is false", loop(1, api.Term{Op: api.XFalse, Type: api.Bool}, none, none), true, 3, 0},
		sample{"with a test that is more than true", loop(1, api.Term{Op: api.XFlip, Type: api.Bool, Kids: []api.Term{yes}}, none, none), true, 3, 0},
		sample{"a test without a type", loop(1, api.Term{Op: api.XTrue}, none, none), false, 3, 0},
		sample{"a test with Kids", loop(1, api.Term{Op: api.XTrue, N: 7, Text: "x", Kids: []api.Term{may}}, none, none), false, 3, 0},
		sample{"no test", loop(1), true, 3, 0},
		sample{"a test alone", loop(1, yes), false, 3, 0},
		sample{"no third part", loop(1, yes, left(1)), true, 2, 1},
		sample{"a test, and a second part that does not end", loop(1, may, back, doing), true, 2, 1},
		sample{"left", loop(1, yes, left(1), doing), true, 2, 1},
		sample{"left in a block", loop(1, yes, block(left(1), doing), doing), true, 3, 2},
		sample{"left in an if", loop(1, yes, branch(may, left(1), none), doing), true, 5, 0},
		sample{"left by what is not come to", loop(1, yes, block(back, left(1)), doing), false, 3, 2},
		sample{"left behind what does not end", loop(1, yes, block(branch(may, back, fall), block(left(1))), doing), false, 5, 3},
		sample{"left behind what goes on for ever", loop(1, yes, block(loop(2, yes, none, none), left(1)), doing), false, 5, 2},
		sample{"another one left", loop(1, yes, left(2), doing), false, 2, 1},
		sample{"gone on with", loop(1, yes, next(1), doing), false, 3, 0},
		sample{"another one gone on with", loop(1, yes, next(2), doing), false, 2, 1},
		sample{"gone on with by what is not come to", loop(1, yes, block(back, next(1)), block(doing)), false, 3, 3},
		sample{"gone on with and ended", loop(1, yes, branch(may, next(1), none), doing), false, 5, 0},
		sample{"gone on with and left", loop(1, yes, branch(may, next(1), left(1)), doing), true, 5, 0},
		sample{"left in the third part", loop(1, yes, none, left(1)), false, 3, 0},
		sample{"gone on with in the third part", loop(1, yes, back, next(1)), false, 2, 1},
		sample{"a third part that does not end", loop(1, may, none, back), true, 3, 0},
		sample{"not come to", block(back, loop(1, may, block(left(1), next(1)), doing), doing), false, 2, 6},
	)
}

func TestP9_1_2Nested(t *testing.T) {
	holdAll(t,
		sample{"the outer one left", loop(1, yes, loop(2, yes, left(1), none), none), true, 3, 2},
		sample{"the inner one left", loop(1, yes, loop(2, yes, left(2), none), none), false, 4, 1},
		sample{"the outer one gone on with", loop(1, yes, loop(2, yes, next(1), none), doing), false, 4, 1},
		sample{"the outer one left in the inner one's third part", loop(1, yes, loop(2, yes, none, left(1)), none), true, 4, 1},
		sample{"the same, which is not come to", loop(1, yes, loop(2, yes, back, left(1)), none), false, 3, 2},
		sample{"the inner third part leaves the outer one from its third part", loop(1, yes, none, loop(2, yes, none, left(1))), false, 5, 0},
		sample{"through a switch", loop(1, yes, choice(2, one, arm(one, left(1)), back), none), true, 4, 1},
		sample{"a switch left", loop(1, yes, choice(2, one, arm(one, left(2)), back), none), false, 5, 0},
		sample{"a switch around", choice(1, one, arm(one, loop(2, yes, left(1), none)), back), true, 4, 1},
		sample{"far out", loop(1, yes, loop(2, yes, choice(3, one, arm(one, block(left(1))), next(2)), doing), doing), true, 7, 1},
		sample{"one number, the inner one left", loop(1, yes, loop(1, yes, left(1), none), none), false, 4, 1},
		sample{"one number, the outer one left behind it", loop(1, yes, block(loop(1, yes, left(1), none), left(1)), none), true, 5, 2},
		sample{"one number, the outer one left ahead of it", loop(1, yes, branch(may, left(1), loop(1, yes, none, none)), none), true, 6, 1},
		sample{"one number, the inner one gone on with", loop(1, yes, loop(1, yes, next(1), none), doing), false, 4, 1},
		sample{"one number, the third part of the inner one", loop(1, yes, loop(1, yes, none, left(1)), none), false, 4, 1},
		sample{"one number, of a switch", loop(1, yes, choice(1, one, arm(one, left(1)), back), none), false, 5, 0},
		sample{"one number, a switch gone on with", loop(1, yes, choice(1, one, arm(one, next(1)), back), doing), false, 4, 1},
		sample{"one number, of a switch around", choice(1, one, loop(1, yes, left(1), none)), true, 3, 1},
		sample{"one number, of a switch around, for ever", choice(1, one, loop(1, yes, back, none)), false, 3, 1},
		sample{"one number, three of them", loop(1, yes, loop(1, yes, block(loop(1, yes, left(1), none), left(1)), none), none), false, 7, 2},
		sample{"a turn that is over is none around", block(loop(1, may, none, none), loop(2, yes, left(1), none)), false, 6, 1},
		sample{"a turn beside", loop(2, yes, block(loop(1, may, none, none), left(1)), none), false, 6, 1},
		sample{"nothing around", block(left(0), doing), false, 2, 1},
		sample{"numbers below 0", loop(-1, yes, left(-1), none), true, 2, 1},
		sample{"great numbers", loop(1<<62, yes, loop(-1<<63, yes, left(1<<62), none), none), true, 3, 2},
		sample{"a number that has the same low bits", loop(1, yes, left(1+1<<32), none), false, 2, 1},
	)
}

func TestP9_1_2Missing(t *testing.T) {
	holdAll(t,
		sample{"a block", block(), true, 1, 0},
		sample{"an if", branch(), true, 3, 0},
		sample{"an if with a test", branch(may), true, 3, 0},
		sample{"an if with a second part", branch(may, back), true, 3, 0},
		sample{"an if with both parts", branch(may, back, back), false, 3, 0},
		sample{"a loop with a test", loop(1, may), true, 3, 0},
		sample{"a loop with a second part", loop(1, yes, back), false, 2, 1},
		sample{"a switch", choice(1), true, 2, 0},
		sample{"a switch with a value", choice(1, one), true, 2, 0},
		sample{"missing behind what does not end", block(back, branch(), loop(1), choice(1), choice(1, one, arm())), false, 2, 11},
		sample{"empty lists", api.Term{Op: api.SIf, Kids: []api.Term{}}, true, 3, 0},
		sample{"no term", api.Term{}, true, 1, 0},
	)
}

func TestP9_1_2AtWill(t *testing.T) {
	m := newAuthor(91)
	for i := range 60000 {
		x := m.term(i % 7)
		keeps(t, x, func() { asPlain(t, x) })
	}
	for range 3000 {
		for _, f := range made(t, m.program()).Funcs {
			asPlain(t, f.Body)
		}
	}
}

// What lies behind a list's length in its memory is not touched.
func TestP9_1_2Memory(t *testing.T) {
	for _, op := range []uint8{api.SBlock, api.SIf, api.SLoop, api.SSwitch} {
		for count := range 4 {
			memory := []api.Term{yes, arm(one, back), arm(one, back), left(1), left(1)}
			x := api.Term{Op: op, N: 1, Kids: memory[:count]}
			whole := block(memory...)
			keeps(t, whole, func() { asPlain(t, x) })
		}
	}
}

// All terms of up to five parts, of the kinds that matter.
func TestP9_1_2All(t *testing.T) {
	heads := []api.Term{none, branch(), loop(1), choice(1), arm(), left(1), next(1), back, yes}
	for size := 1; size <= 5; size++ {
		eachList(size, heads, func(list []api.Term) {
			if len(list) != 1 {
				return
			}
			asPlain(t, list[0])
			asPlain(t, loop(1, yes, list[0], doing))
		})
	}
}

// eachList calls f with each list of terms that has so many terms in all, with these heads.
func eachList(size int, heads []api.Term, f func([]api.Term)) {
	if size == 0 {
		f(nil)
		return
	}
	for inner := range size {
		eachList(inner, heads, func(kids []api.Term) {
			for _, head := range heads {
				head.Kids = kids
				eachList(size-1-inner, heads, func(rest []api.Term) {
					f(append([]api.Term{head}, rest...))
				})
			}
		})
	}
}

func FuzzTerm(f *testing.F) {
	f.Add([]byte{9, 1, 3, 42, 0, 0, 12, 1, 0, 1, 0, 0})
	f.Fuzz(func(t *testing.T, b []byte) {
		x, _ := fromBytes(b, 40)
		asPlain(t, x)
	})
}

// fromBytes reads a term of a depth at most: its kind, its number, how many Kids it has, these; and tells the bytes behind it.
func fromBytes(b []byte, depth int) (api.Term, []byte) {
	if len(b) < 3 {
		return none, nil
	}
	x := api.Term{Op: b[0], N: int64(b[1] % 4)}
	count := int(b[2] % 6)
	b = b[3:]
	for range count {
		if depth == 0 || len(b) == 0 {
			break
		}
		var k api.Term
		k, b = fromBytes(b, depth-1)
		x.Kids = append(x.Kids, k)
	}
	return x, b
}
