package flow

import (
	"testing"

	"trammel/api"
)

// depth is how many parts may be nested in one another by the document's bound.
const depth = 1 << 16

// nest puts a term into so many others, one within the other.
func nest(count int, x api.Term, around func(number int64, x api.Term) api.Term) api.Term {
	for i := range count {
		x = around(int64(count-1-i), x)
	}
	return x
}

func TestP9_1_2Deep(t *testing.T) {
	blocks := func(_ int64, x api.Term) api.Term { return block(x) }
	thens := func(_ int64, x api.Term) api.Term { return branch(may, x, back) }
	elses := func(_ int64, x api.Term) api.Term { return branch(may, back, x) }
	loops := func(n int64, x api.Term) api.Term { return loop(n, yes, x, doing) }
	same := func(_ int64, x api.Term) api.Term { return loop(7, yes, x, doing) }
	thirds := func(n int64, x api.Term) api.Term { return loop(n, yes, next(n), x) }
	arms := func(n int64, x api.Term) api.Term { return choice(n, one, arm(one, x), back) }
	lasts := func(n int64, x api.Term) api.Term { return choice(n, one, x) }
	values := func(_ int64, x api.Term) api.Term { return api.Term{Op: api.XNeg, Kids: []api.Term{x}} }
	const d, last = depth - 2, depth - 3 // x and its call lie in them
	for _, s := range []sample{
		{"blocks", nest(d, doing, blocks), true, d + 1, 0},
		{"blocks that do not end", nest(d, back, blocks), false, d + 1, 0},
		{"thens", nest(d, doing, thens), true, 2*d + 1, 0},
		{"thens that do not end", nest(d, back, thens), false, 2*d + 1, 0},
		{"elses", nest(d, doing, elses), true, 2*d + 1, 0},
		{"elses that do not end", nest(d, back, elses), false, 2*d + 1, 0},
		{"loops", nest(d, doing, loops), false, d + 2, d - 1},
		{"loops, the innermost left", nest(d, left(last), loops), false, d + 2, d - 1},
		{"loops, the outermost left", nest(d, left(0), loops), true, d + 1, d},
		{"loops, the outermost gone on with", nest(d, next(0), loops), false, d + 2, d - 1},
		{"loops, none of them left", nest(d, left(d), loops), false, d + 1, d},
		{"loops of one number", nest(d, left(7), same), false, d + 2, d - 1},
		{"third parts", nest(d, doing, thirds), false, 2*d + 1, 0},
		{"third parts, one left", nest(d, left(0), thirds), false, 2*d + 1, 0},
		{"cases", nest(d, doing, arms), true, 2*d + 1, 0},
		{"cases that do not end", nest(d, back, arms), false, 2*d + 1, 0},
		{"cases, the outermost left", nest(d, left(0), arms), true, 2*d + 1, 0},
		{"last parts", nest(d, doing, lasts), true, d + 1, 0},
		{"last parts that do not end", nest(d, back, lasts), false, d + 1, 0},
		{"values", nest(d, back, values), true, 1, 0},
	} {
		holds(t, s.name, s.term, s.ends, s.reached, s.missed)
	}
}

// Many breaks far within, and very many statements one behind the other: the answer comes soon.
func TestP9_1_2Wide(t *testing.T) {
	const wide, d = 1 << 20, depth - 4
	many := make([]api.Term, wide)
	for i := range many {
		many[i] = branch(may, left(int64(i%d)), next(0))
	}
	loops := func(n int64, x api.Term) api.Term { return loop(n, yes, x) }
	holds(t, "one behind the other", nest(d, block(many...), loops), true, d+1+3+1, d-1+3*(wide-1))
	for i := range many {
		many[i] = branch(may, left(int64(i%d)), none)
	}
	holds(t, "one behind the other, which end", nest(d, block(many...), loops), true, d+1+3*wide+d, 0)
	for i := range many {
		many[i] = arm(one, left(int64(i%d)))
	}
	kids := append(append([]api.Term{one}, many...), back)
	holds(t, "cases", nest(d, choice(-1, kids...), loops), true, d+1+wide+1+d-1, 1)
}
