package thread

import (
	"fmt"
	"math"
	"math/rand"

	"trammel/api"
)

func at(label int) api.Line { return api.Line{Label: label} }

func do(op uint8, numbers ...int64) api.Line {
	x := api.Instr{Op: op}
	for i, n := range numbers {
		*[]*int64{&x.A, &x.B}[i] = n
	}
	return api.Line{X: x}
}

func jump(to int64) api.Line { return do(api.OpJump, to) }
func when(to int64) api.Line { return do(api.OpWhen, to) }

// choose is a switch whose arms' values and targets stand by turns.
func choose(width, other int64, arms ...int64) api.Line {
	x := api.Instr{Op: api.OpSwitch, A: width, B: other}
	for i := 0; i < len(arms); i += 2 {
		x.Arms = append(x.Arms, api.Arm{Value: arms[i], To: int(arms[i+1])})
	}
	return api.Line{X: x}
}

// armed is a line whose X has an arm.
func armed(x api.Line) api.Line {
	x.X.Arms = []api.Arm{{}}
	return x
}

func row(l ...api.Line) []api.Line { return l }

func yes() api.Line  { return do(api.OpTrue) }
func back() api.Line { return do(api.OpReturn) }

// tell shortens what a test tells of lines.
func tell(l []api.Line) string {
	s := fmt.Sprint(l)
	return s[:min(len(s), 400)]
}

// rowsOf tells all rows of so many of some lines.
func rowsOf(length int, some []api.Line) func(yield func([]api.Line) bool) {
	return func(yield func([]api.Line) bool) {
		for n, end := 0, int(math.Pow(float64(len(some)), float64(length))); n < end; n++ {
			var l []api.Line
			for k := n; len(l) < length; k /= len(some) {
				l = append(l, some[k%len(some)])
			}
			if !yield(l) {
				return
			}
		}
	}
}

// maker makes rows at will.
type maker struct{ *rand.Rand }

func madeBy(seed int64) maker { return maker{rand.New(rand.NewSource(seed))} }

// labels makes unlike labels' numbers, small ones more often than others.
func (m maker) labels(n int) []int {
	var list []int
	seen := map[int]bool{}
	for len(list) < n {
		k := m.Intn(2 * n)
		if m.Intn(4) == 0 {
			k = m.Intn(1 << (1 + m.Intn(31)))
		}
		if !seen[k] {
			seen[k] = true
			list = append(list, k)
		}
	}
	return list
}

// instr makes an instruction; of so many of twelve a jump.
func (m maker) instr(labels []int, jumps int) api.Line {
	to := func() int64 { return int64(labels[m.Intn(len(labels))]) }
	if len(labels) == 0 {
		return []api.Line{yes(), back(), do(api.OpTrap, 7), do(api.OpField, 0, 0), do(api.OpCall, 1)}[m.Intn(5)]
	}
	if m.Intn(12) < jumps {
		return jump(to())
	}
	switch m.Intn(8) {
	case 0, 1:
		return do([]uint8{api.OpWhen, api.OpUnless}[m.Intn(2)], to())
	case 2:
		x := choose(1+m.Int63n(3), to())
		for range m.Intn(4) {
			x.X.Arms = append(x.X.Arms, api.Arm{Value: m.Int63n(9) - 4, To: int(to())})
		}
		return x
	case 3:
		return []api.Line{back(), do(api.OpTrap, m.Int63n(256))}[m.Intn(2)]
	}
	n := int64(labels[m.Intn(len(labels))]) & 63
	return do([]uint8{api.OpGet, api.OpI8, api.OpText, api.OpCall}[m.Intn(4)], n) // a number that may be a label's, but is no target
}

// lines makes lines that may be.
func (m maker) lines() []api.Line {
	labels := m.labels(m.Intn(8))
	jumps := m.Intn(12)
	var l []api.Line
	for range m.Intn(13) {
		l = append(l, m.instr(labels, jumps))
	}
	for _, n := range labels {
		k := m.Intn(len(l) + 1)
		l = append(l[:k:k], append(row(at(n)), l[k:]...)...)
	}
	return l
}

// rings makes lines with many jumps in rings and to rings, all of them come to.
func (m maker) rings() []api.Line {
	labels := m.labels(1 + m.Intn(8))
	var l []api.Line
	for _, to := range labels {
		if m.Intn(3) > 0 {
			l = append(l, yes(), when(int64(to)))
		}
	}
	for _, to := range labels {
		l = append(l, at(to))
		if m.Intn(4) > 0 {
			l = append(l, jump(int64(labels[m.Intn(len(labels))])))
		}
	}
	return l
}

// spoilt makes lines of which some may not be.
func (m maker) spoilt() []api.Line {
	l := m.lines()
	for range 1 + m.Intn(2) {
		if len(l) == 0 {
			return row(at(-1))
		}
		x := &l[m.Intn(len(l))]
		switch m.Intn(5) {
		case 0:
			x.Label = []int{-1, 0, 1, 1 << 31, math.MinInt}[m.Intn(5)]
		case 1:
			x.X.A += m.Int63n(5) - 2
		case 2:
			x.X.B += m.Int63n(5) - 2
		case 3:
			x.X.Op = uint8(m.Intn(56))
		case 4:
			*x = l[m.Intn(len(l))]
		}
	}
	return l
}

// renamed gives labels other numbers, in any order.
func (m maker) renamed(l []api.Line) []api.Line {
	to := map[int]int{}
	list := m.labels(len(l))
	for i, x := range l {
		if plainIsLabel(x) {
			to[x.Label] = list[i]
		}
	}
	out := plainMoved(l, func(n int) int { return to[n] })
	for i, x := range out {
		if plainIsLabel(x) {
			out[i].Label = to[x.Label]
		}
	}
	return out
}
