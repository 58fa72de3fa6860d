package linear

import (
	"trammel/api"
	"trammel/ops"
)

const maxLabel = 1<<31 - 1

// layout is where the labels of lines stand, by their numbers, and how many bytes all instructions have.
type layout struct {
	places map[int64]int
	size   int
}

// layoutOf tells the layout of lines, or what is wrong first with them.
func layoutOf(l []api.Line) (layout, api.Errno) {
	a := layout{places: map[int64]int{}}
	for _, x := range l {
		if err := a.add(x); err != api.OK {
			return layout{}, err
		}
	}
	for _, x := range l {
		if !a.leads(x.X) {
			return layout{}, api.ErrLabels
		}
	}
	return a, api.OK
}

// add goes on by a line.
func (a *layout) add(x api.Line) api.Errno {
	if x.X.Op != 0 {
		return a.instr(x)
	}
	if x.X.A != 0 || x.X.B != 0 || len(x.X.Arms) > 0 {
		return api.ErrOp
	}
	return a.label(int64(x.Label))
}

func (a *layout) instr(x api.Line) api.Errno {
	size := ops.Size(x.X)
	if size == 0 || x.Label != 0 {
		return api.ErrOp
	}
	a.size += size
	return api.OK
}

func (a *layout) label(number int64) api.Errno {
	_, ahead := a.places[number]
	if ahead || number < 0 || number > maxLabel {
		return api.ErrLabels
	}
	a.places[number] = a.size
	return api.OK
}

// leads: are all targets labels of the lines?
func (a layout) leads(x api.Instr) bool {
	for _, to := range Targets(x) {
		if _, ok := a.places[to]; !ok {
			return false
		}
	}
	return true
}

// code tells the instructions of the lines, with labels' places as targets.
func (a layout) code(l []api.Line) placed {
	p := placed{end: a.size}
	at := 0
	for _, x := range l {
		if x.X.Op == 0 {
			continue
		}
		p.places = append(p.places, at)
		p.list = append(p.list, retarget(x.X, func(label int64) int64 { return int64(a.places[label]) }))
		at += ops.Size(x.X)
	}
	return p
}
