package eval

import (
	"math"
	"runtime"
	"strings"
	"sync"
	"testing"

	"trammel/api"
)

func term(op uint8, typ int, n int64, kids ...api.Term) api.Term {
	return api.Term{Op: op, Type: typ, N: n, Kids: kids}
}

// function makes a program of one function, of one i64 result.
func function(slots []int, stmts ...api.Term) api.Program {
	return api.Program{Funcs: []api.Func{{Name: "f", Results: []int{api.I64}, Slots: slots, Body: term(api.SBlock, 0, 0, stmts...)}}}
}

// within puts a term into so many others, one within the other.
func within(count int, x api.Term, around func(x api.Term, number int64) api.Term) api.Term {
	for i := range count {
		x = around(x, int64(count-1-i))
	}
	return x
}

func whole(n int64) api.Term { return term(api.XInt, api.I64, n) }

// Terms that lie as deep in one another as they can, in as many frames as there can be: more than Go's own stack could hold.
func TestP11_1Deep(t *testing.T) {
	call := term(api.XCall, api.I64, 0)
	back := func(x api.Term) api.Term { return term(api.SReturn, 0, 0, x) }
	const d = api.MaxNodes - 3
	neg := func(x api.Term, _ int64) api.Term { return term(api.XNeg, api.I64, 0, x) }
	add := func(x api.Term, _ int64) api.Term { return term(api.XAdd, api.I64, 0, whole(1), x) }
	block := func(x api.Term, _ int64) api.Term { return term(api.SBlock, 0, 0, x) }
	yes := term(api.XTrue, api.Bool, 0)
	loop := func(x api.Term, n int64) api.Term {
		return term(api.SLoop, 0, n, yes, term(api.SBlock, 0, 0, x), term(api.SBlock, 0, 0))
	}
	choice := func(x api.Term, n int64) api.Term {
		return term(api.SSwitch, 0, n, whole(3), term(api.SCase, 0, 0, whole(3), term(api.SBlock, 0, 0, x)), term(api.SBlock, 0, 0, term(api.STrap, 0, 1)))
	}
	const loops, choices = d / 4, d / 7
	for _, s := range []struct {
		name string
		p    api.Program
		want api.Answer
	}{
		{"a value", function(nil, back(within(d-d%2, whole(5), neg))), values(api.MaxNodes-d%2, i64(5))},
		{"sums", function(nil, back(within(d/2, whole(0), add))), values(3+d/2*2, i64(d/2))},
		{"values in frames", function(nil, back(within(d, call, neg))), trapped(api.MaxCalls*api.MaxNodes, api.TrapDepth)},
		{"sums in frames", function(nil, back(within(d/2, call, add))), trapped(api.MaxCalls*(3+d/2*2), api.TrapDepth)},
		{"blocks in frames", function(nil, within(d, back(call), block)), trapped(api.MaxCalls*api.MaxNodes, api.TrapDepth)},
		{"loops in frames", function(nil, within(loops, back(call), loop)), trapped(api.MaxCalls*(3+loops*3), api.TrapDepth)},
		{"switches in frames", function(nil, within(choices, back(call), choice)), trapped(api.MaxCalls*(3+choices*3), api.TrapDepth)},
		{"the outermost loop left", function(nil, within(loops-1, term(api.SBreak, 0, 0), loop), back(whole(4))), values(1+(loops-1)*3+1+2, i64(4))},
		{"the outermost switch left", function(nil, within(choices-1, term(api.SBreak, 0, 0), choice), back(whole(4))), values(1+(choices-1)*3+1+2, i64(4))},
	} {
		t.Run(s.name, func(t *testing.T) {
			if a, wrong := Run(s.p, 0, nil, int64(s.want.Steps)); wrong != api.OK || !same(a, s.want) {
				t.Errorf("%v, %d, want %v", a, wrong, s.want)
			}
			if a, wrong := Run(s.p, 0, nil, int64(s.want.Steps)-1); wrong != api.ErrFuel {
				t.Errorf("one fewer: %v, %d", a, wrong)
			}
		})
	}
}

// Many statements one behind the other, and a switch of many numbers, gone through many times: the answer comes soon.
func TestP11_1Wide(t *testing.T) {
	const many = 20000
	count := term(api.SPut, 0, 0, term(api.XAdd, api.I64, 0, term(api.XName, api.I64, 0), whole(1)))
	back := term(api.SReturn, 0, 0, term(api.XName, api.I64, 0))
	list := []api.Term{term(api.SPut, 0, 0, whole(0))}
	for range many / 2 {
		list = append(list, count)
	}
	slots := []int{api.I64}
	answers(t, function(slots, append(list, back)...), 0, nil, values(1+2+many/2*4+2, i64(many/2)))

	arms := []api.Term{term(api.XName, api.I64, 0)}
	for i := range many {
		arms = append(arms, term(api.SCase, 0, 0, whole(int64(i)), term(api.SBlock, 0, 0)))
	}
	last := term(api.SBlock, 0, 0, term(api.SBreak, 0, 0))
	turns := term(api.SLoop, 0, 0, term(api.XTrue, api.Bool, 0), term(api.SBlock, 0, 0, term(api.SSwitch, 0, 1, append(arms, last)...)), term(api.SBlock, 0, 0, count))
	p := function(slots, list[0], turns, back)
	told(t, p, 0, nil, 1<<30, values(1+2+1+many*(1+1+2+1+5)+(1+1+2+1+1)+2, i64(many)), 0, api.OK)
}

// A text of the program may be longer than one that a run makes.
func TestP11_1LongTexts(t *testing.T) {
	long := strings.Repeat("abcdefgh", api.MaxText/8+1)
	text := api.Term{Op: api.XText, Type: api.Text, Text: long}
	none := api.Term{Op: api.XText, Type: api.Text}
	cut := func(from, to int64) api.Term { return term(api.XCut, api.Text, 0, text, whole(from), whole(to)) }
	length := func(x api.Term) api.Program {
		return function(nil, term(api.SReturn, 0, 0, term(api.XLen, api.I64, 0, x)))
	}
	answers(t, length(text), 0, nil, values(4, i64(int64(len(long)))))
	answers(t, length(cut(0, api.MaxText)), 0, nil, values(7, i64(api.MaxText)))
	answers(t, length(cut(8, api.MaxText+8)), 0, nil, values(7, i64(api.MaxText)))
	answers(t, length(cut(0, api.MaxText+1)), 0, nil, trapped(7, api.TrapSize))
	answers(t, length(cut(7, api.MaxText+8)), 0, nil, trapped(7, api.TrapSize))
	answers(t, length(cut(7, api.MaxText+9)), 0, nil, trapped(7, api.TrapIndex))
	answers(t, length(term(api.XAdd, api.Text, 0, text, none)), 0, nil, trapped(6, api.TrapSize))
	answers(t, length(term(api.XAdd, api.Text, 0, none, text)), 0, nil, trapped(6, api.TrapSize))
	p := function(nil, term(api.SReturn, 0, 0, text))
	p.Funcs[0].Results = []int{api.Text}
	answers(t, p, 0, nil, values(3, letters(long)))
}

// A text that stands in a loop does not fill the memory, nor do frames that are over.
func TestP11_1Memory(t *testing.T) {
	locals := strings.Repeat("{ var a = 1; } ", 200)
	p := made(t, "fn f() { var s = \"\"; while true { s = \""+strings.Repeat("a", 60000)+"\"; g(s); } } fn g(s bytes) { var t = \"b\"; s = t; if false { "+locals+"} }")
	var before, behind runtime.MemStats
	runtime.ReadMemStats(&before)
	told(t, p, 0, nil, 1<<20, api.Answer{}, 0, api.ErrFuel)
	runtime.ReadMemStats(&behind)
	if made := behind.TotalAlloc - before.TotalAlloc; made > 1<<24 {
		t.Errorf("%d bytes were taken", made)
	}
}

// Runs of one program beside each other do not meet.
func TestP11_1Beside(t *testing.T) {
	p := made(t, "fn f(n i64) bytes { var s = \"\"; for var i = 0; i < n; i = i + 1 { s = s + \"ab\"; } return s; }")
	var all sync.WaitGroup
	lists := make([]api.Answer, 8)
	for i := range lists {
		all.Add(1)
		go func() {
			defer all.Done()
			lists[i], _ = Run(p, 0, []int64{int64(i)}, math.MaxInt64)
		}()
	}
	all.Wait()
	for i, a := range lists {
		if len(a.Values) != 1 || a.Values[0] != letters(strings.Repeat("ab", i)) {
			t.Errorf("%d: %v", i, a)
		}
	}
}

// Terms made by hand: an SPuts of one slot several times, a switch without cases, a loop whose third part puts several, a slot that
// is put to by its own value.
func TestP11_1ByHand(t *testing.T) {
	slot := func(n int64) api.Term { return term(api.SSlot, 0, n) }
	name := func(n int64) api.Term { return term(api.XName, api.I64, n) }
	back := func(x api.Term) api.Term { return term(api.SReturn, 0, 0, x) }
	empty := term(api.SBlock, 0, 0)
	for _, s := range []struct {
		name  string
		stmts []api.Term
		want  api.Answer
	}{
		{"a slot three times", []api.Term{term(api.SPuts, 0, 0, slot(1), slot(1), slot(1), term(api.XCall, 0, 1)), back(name(1))}, values(1+2+5+2, i64(1))},
		{"two slots of three", []api.Term{term(api.SPuts, 0, 0, slot(0), slot(1), slot(1), term(api.XCall, 0, 1)), back(term(api.XSub, api.I64, 0, name(0), name(1)))}, values(1+2+5+4, i64(-1))},
		{"no cases", []api.Term{term(api.SSwitch, 0, 0, whole(1), term(api.SBlock, 0, 0, back(whole(3))))}, values(1+2+1+2, i64(3))},
		{"a case of a great number", []api.Term{term(api.SSwitch, 0, 0, whole(-1<<63), term(api.SCase, 0, 0, whole(1<<62), whole(-1<<63), term(api.SBlock, 0, 0, back(whole(3)))), term(api.SBlock, 0, 0, term(api.STrap, 0, 0)))}, values(1+2+1+2, i64(3))},
		{"a slot put to by itself", []api.Term{term(api.SPut, 0, 0, whole(8)), term(api.SPut, 0, 0, term(api.XMul, api.I64, 0, name(0), name(0))), back(name(0))}, values(1+2+4+2, i64(64))},
		{"several behind each turn", []api.Term{
			term(api.SPut, 0, 0, whole(0)),
			term(api.SLoop, 0, 0, term(api.XEq, api.Bool, 0, name(0), whole(0)), empty, term(api.SBlock, 0, 0, term(api.SPuts, 0, 0, slot(0), slot(1), slot(1), term(api.XCall, 0, 1)))),
			back(name(0)),
		}, values(1+2+1+3+1+(1+2+5)+3+2, i64(1))},
	} {
		t.Run(s.name, func(t *testing.T) {
			p := made(t, "fn f() i64 { return 0; } fn g() (i64, i64, i64) { return 1, 2, 3; }")
			p.Funcs[0].Slots = []int{api.I64, api.I64}
			p.Funcs[0].Body = term(api.SBlock, 0, 0, s.stmts...)
			answers(t, p, 0, nil, s.want)
		})
	}
}
