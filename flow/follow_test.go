package flow

import (
	"slices"
	"testing"

	"trammel/api"
)

// blocksOf tells the SBlocks of a term that are statements: those that Reached counts more of, if one gets more Kids. What is within
// another one stands ahead of it, so that each can be changed in its turn.
func blocksOf(x *api.Term) []*api.Term {
	var list []*api.Term
	eachTerm(x, func(b *api.Term) {
		if b.Op != api.SBlock {
			return
		}
		reached, missed := Reached(*x)
		kids := b.Kids
		b.Kids = append(slices.Clone(kids), doing)
		moreReached, moreMissed := Reached(*x)
		b.Kids = kids
		if moreReached+moreMissed == reached+missed+1 {
			list = append(list, b)
		}
	})
	slices.Reverse(list)
	return list
}

// endsIn: does the i-th Kid of a block of x end? It does, if what is put right behind it is come to.
func endsIn(x, b *api.Term, i int) bool {
	reached, _ := Reached(*x)
	kids := b.Kids
	b.Kids = slices.Insert(slices.Clone(kids), i+1, doing)
	more, _ := Reached(*x)
	b.Kids = kids
	return more > reached
}

func TestP9_4LeftOut(t *testing.T) {
	for _, stmts := range [][2]string{
		{"return; f(); f();", "return;"},
		{"if a { trap 1; f(); } else { return; f(); } f(); f();", "if a { trap 1; } else { return; }"},
		{"while true { break; f(); } f();", "while true { break; } f();"},
		{"while true { return; break; }", "while true { return; }"},
		{"while true { while true { } break; } f();", "while true { while true { } }"},
		{"L: while true { while true { break L; } return; } f();", "L: while true { while true { break L; } } f();"},
		{"while true { switch n { case 1: continue; default: continue; } break; }", "while true { switch n { case 1: continue; default: continue; } }"},
	} {
		whole, short := body(t, stmts[0]), body(t, stmts[1])
		reached, _ := Reached(whole)
		holds(t, stmts[1], short, Ends(whole), reached, countMissed(short))
	}
	m := newAuthor(941)
	left := 0
	for i := range 8000 {
		x := m.term(3 + i%4)
		if i%2 == 0 {
			p := made(t, m.program())
			x = p.Funcs[m.Intn(len(p.Funcs))].Body
		}
		left += leavesOut(t, m, x)
	}
	if left < 2000 {
		t.Errorf("left out %d times alone", left)
	}
}

// countMissed tells by the second reading how many statements are not come to.
func countMissed(x api.Term) int {
	_, _, missed := plain(x)
	return missed
}

// leavesOut leaves out of blocks of x what stands behind a statement that does not end, as often as that is found.
func leavesOut(t *testing.T, m *author, x api.Term) int {
	t.Helper()
	ends := Ends(x)
	reached, _ := Reached(x)
	count := 0
	for _, b := range blocksOf(&x) {
		if len(b.Kids) < 2 {
			continue
		}
		i := m.Intn(len(b.Kids) - 1)
		if endsIn(&x, b, i) {
			continue
		}
		b.Kids = slices.Clone(b.Kids[:i+1])
		count++
		if now, _ := Reached(x); Ends(x) != ends || now != reached {
			t.Fatalf("%v: another answer behind what is left out", x)
		}
	}
	return count
}

func TestP9_4PutBehind(t *testing.T) {
	loopOn := loop(5, yes, none, none)
	for _, s := range []struct {
		b    api.Term
		ends bool
	}{
		{none, true}, {block(doing), true}, {block(loop(1, may, back, none)), true},
		{block(back), false}, {block(doing, fall), false}, {block(loopOn), false}, {block(branch(may, back, fall)), false},
		{block(back, doing), false}, {block(left(3)), false}, {block(next(3), doing), false}, {block(choice(1, one, back)), false},
	} {
		for _, more := range []api.Term{doing, back, none, left(3), next(3), loopOn, branch(), choice(3, one, arm(one, left(3))), {}} {
			reached, missed := Reached(s.b)
			in, out := Reached(more)
			b := block(append(slices.Clone(s.b.Kids), more)...)
			if s.ends {
				holds(t, "behind one that ends", b, Ends(more), reached+in, missed+out)
				continue
			}
			holds(t, "behind one that does not end", b, false, reached, missed+in+out)
		}
	}
	m := newAuthor(942)
	put := 0
	for i := range 8000 {
		put += putsBehind(t, m, loop(1, may, block(m.terms(3, 1+i%4)...), none))
	}
	if put < 10000 {
		t.Errorf("put %d times alone", put)
	}
}

// putsBehind puts statements behind all others of blocks of x that do not end.
func putsBehind(t *testing.T, m *author, x api.Term) int {
	t.Helper()
	count := 0
	for _, b := range blocksOf(&x) {
		if endsIn(&x, b, len(b.Kids)-1) {
			continue
		}
		ends := Ends(x)
		reached, missed := Reached(x)
		more := m.term(3)
		in, out := Reached(more)
		b.Kids = append(slices.Clone(b.Kids), more)
		count++
		if nowReached, nowMissed := Reached(x); Ends(x) != ends || nowReached != reached || nowMissed != missed+in+out {
			t.Fatalf("%v: another answer with %v behind", x, more)
		}
	}
	return count
}

func TestP9_4FunctionsLess(t *testing.T) {
	m := newAuthor(943)
	taken := 0
	for range 4000 {
		p := made(t, m.program())
		if _, wrong := Check(p); wrong != api.OK {
			continue
		}
		for set := range 1 << len(p.Funcs) {
			if q, may := without(p, set); may {
				answers(t, "without functions that no other one calls", q, 0, api.OK)
				taken++
			}
		}
	}
	if taken < 2000 {
		t.Errorf("taken %d times alone", taken)
	}
	p := made(t, "fn f() i8 { return g(); } fn g() i8 { return 1i8; } fn h() i8 { return h(); } fn i() i8 { return g(); }")
	for set, may := range []bool{0: true, 1: true, 4: true, 5: true, 8: true, 9: true, 12: true, 13: true, 15: false} {
		if q, is := without(p, set); is != may {
			t.Errorf("without %b: %t", set, is)
		} else if is {
			answers(t, "without some", q, 0, api.OK)
		}
	}
}

// without tells a program less the functions of a set, where calls' places move with the others; false, if another one calls one of them.
func without(p api.Program, set int) (api.Program, bool) {
	places := make([]int64, len(p.Funcs))
	gone := func(place int64) bool { return set>>place&1 == 1 }
	var next int64
	for i := range p.Funcs {
		places[i] = next
		if !gone(int64(i)) {
			next++
		}
	}
	q, may := copiedProgram(p), true
	for i := range q.Funcs {
		eachTerm(&q.Funcs[i].Body, func(x *api.Term) {
			if x.Op == api.XCall {
				may = may && (!gone(x.N) || x.N == int64(i))
				x.N = places[x.N]
			}
		})
	}
	for i := len(q.Funcs) - 1; i >= 0; i-- {
		if gone(int64(i)) {
			q.Funcs = slices.Delete(q.Funcs, i, i+1)
		}
	}
	return q, may
}
