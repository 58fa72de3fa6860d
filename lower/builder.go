package lower

import "trammel/api"

// builder keeps the lines of a function while they come, and gives out labels.
type builder struct {
	lines  []api.Line
	labels int // how many were given out
}

// put puts lines behind those that are there.
func (b *builder) put(list ...api.Line) { b.lines = append(b.lines, list...) }

// label gives out a label's number that none has yet.
func (b *builder) label() int {
	b.labels++
	return b.labels - 1
}

// at tells the line of a label.
func at(label int) api.Line { return api.Line{Label: label} }

// to tells the line of an instruction that leads to a label.
func to(op uint8, label int) api.Line { return instr(op, int64(label)) }

// instr tells the line of an instruction with the numbers that stand behind its Op, two at the most.
func instr(op uint8, numbers ...int64) api.Line {
	var n [2]int64
	copy(n[:], numbers)
	return api.Line{X: api.Instr{Op: op, A: n[0], B: n[1]}}
}
