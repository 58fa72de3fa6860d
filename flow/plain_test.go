package flow

import "trammel/api"

// graph is a second reading of the chapter: places, and where each of them leads; a statement is come to, if the place ahead of it
// can be walked to from the first place.
type graph struct {
	leads  [][]int
	ahead  []int // of each statement
	around []target
}

// target is a turn that is around, and where an SBreak and an SNext of its number lead from there. Place 0 is nowhere.
type target struct{ number, left, next int64 }

func plain(t api.Term) (ends bool, reached, missed int) {
	g := &graph{leads: make([][]int, 2)}
	end := g.stmt(t, 1)
	seen := g.walk(1)
	for _, place := range g.ahead {
		if seen[place] {
			reached++
		} else {
			missed++
		}
	}
	return seen[end], reached, missed
}

func (g *graph) walk(from int) []bool {
	seen := make([]bool, len(g.leads))
	seen[from] = true
	for todo := []int{from}; len(todo) > 0; {
		place := todo[len(todo)-1]
		todo = todo[:len(todo)-1]
		for _, to := range g.leads[place] {
			if !seen[to] {
				seen[to] = true
				todo = append(todo, to)
			}
		}
	}
	seen[0] = false
	return seen
}

// place makes a place, to which those lead.
func (g *graph) place(from ...int) int {
	g.leads = append(g.leads, nil)
	to := len(g.leads) - 1
	for _, f := range from {
		g.lead(f, to)
	}
	return to
}

func (g *graph) lead(from, to int) { g.leads[from] = append(g.leads[from], to) }

// stmt draws a statement behind a place, and tells the place behind it.
func (g *graph) stmt(t api.Term, from int) int {
	g.ahead = append(g.ahead, from)
	switch t.Op {
	case api.SBlock:
		for _, k := range t.Kids {
			from = g.stmt(k, from)
		}
		return from
	case api.SIf:
		return g.place(g.stmt(part(t, 1), g.place(from)), g.stmt(part(t, 2), g.place(from)))
	case api.SLoop:
		return g.loop(t, from)
	case api.SSwitch:
		return g.choice(t, from)
	case api.SBreak, api.SNext:
		g.leap(t, from)
		return g.place()
	case api.SReturn, api.STrap:
		return g.place()
	}
	return from
}

func (g *graph) loop(t api.Term, from int) int {
	test, out := g.place(from), g.place()
	if len(t.Kids) == 0 || t.Kids[0].Op != api.XTrue {
		g.lead(test, out)
	}
	third := g.place()
	end := g.inside(target{t.N, int64(out), int64(third)}, part(t, 1), g.place(test))
	g.lead(end, third)
	g.lead(g.inside(target{t.N, 0, 0}, part(t, 2), third), test)
	return out
}

func (g *graph) choice(t api.Term, from int) int {
	out := g.place()
	draw := func(x api.Term) { g.lead(g.inside(target{t.N, int64(out), 0}, x, g.place(from)), out) }
	hasLast := false
	for i, k := range t.Kids {
		switch {
		case i == 0: // the value
		case k.Op == api.SCase && len(k.Kids) == 0:
			draw(none)
		case k.Op == api.SCase:
			draw(k.Kids[len(k.Kids)-1])
		case i == len(t.Kids)-1:
			draw(k)
			hasLast = true
		}
	}
	if !hasLast {
		draw(none)
	}
	return out
}

func (g *graph) inside(turn target, t api.Term, from int) int {
	g.around = append(g.around, turn)
	to := g.stmt(t, from)
	g.around = g.around[:len(g.around)-1]
	return to
}

func (g *graph) leap(t api.Term, from int) {
	for i := len(g.around) - 1; i >= 0; i-- {
		if turn := g.around[i]; turn.number == t.N {
			to := turn.left
			if t.Op == api.SNext {
				to = turn.next
			}
			g.lead(from, int(to))
			return
		}
	}
}

// part tells a part of a term, or an empty SBlock.
func part(t api.Term, i int) api.Term {
	if len(t.Kids) > i {
		return t.Kids[i]
	}
	return none
}
