package thread

import (
	"slices"

	"trammel/api"
	"trammel/linear"
)

// A second reading of the chapter, word by word: what stands behind a label is looked for from the label on, a way is the list of its labels,
// what is come to is asked of all lines till nothing changes, and rounds are made one by one, each of which asks all jumps at once.

func plainIsLabel(x api.Line) bool { return x.X.Op == 0 }

// plainAt tells in which line a label stands; -1: in none.
func plainAt(l []api.Line, label int) int {
	return slices.IndexFunc(l, func(x api.Line) bool { return plainIsLabel(x) && x.Label == label })
}

// plainBehind tells the instruction behind a line, and whether there is one.
func plainBehind(l []api.Line, i int) (api.Instr, bool) {
	for _, x := range l[i+1:] {
		if !plainIsLabel(x) {
			return x.X, true
		}
	}
	return api.Instr{}, false
}

// plainWay tells the labels on a label's way, and whether it comes back to one of them.
func plainWay(l []api.Line, label int) ([]int, bool) {
	var way []int
	for !slices.Contains(way, label) {
		way = append(way, label)
		x, ok := plainBehind(l, plainAt(l, label))
		if !ok || x.Op != api.OpJump {
			return way, false
		}
		label = int(x.A)
	}
	return way, true
}

func plainLeads(l []api.Line, label int) (int, api.Errno) {
	if err := linear.Check(l); err != api.OK {
		return 0, err
	}
	if plainAt(l, label) < 0 {
		return 0, api.ErrArg
	}
	way, ring := plainWay(l, label)
	if ring {
		return label, api.OK
	}
	return way[len(way)-1], api.OK
}

// plainCome asks of one line whether it is come to, as far as is known which ones are.
func plainCome(l []api.Line, is []bool, i int) bool {
	if i == 0 {
		return true
	}
	ends := []uint8{api.OpJump, api.OpSwitch, api.OpReturn, api.OpTrap}
	if is[i-1] && !slices.Contains(ends, l[i-1].X.Op) {
		return true
	}
	for k, x := range l {
		if is[k] && plainIsLabel(l[i]) && slices.Contains(linear.Targets(x.X), int64(l[i].Label)) {
			return true
		}
	}
	return false
}

func plainReached(l []api.Line) ([]bool, api.Errno) {
	if err := linear.Check(l); err != api.OK {
		return nil, err
	}
	is := make([]bool, len(l))
	for again := true; again; {
		again = false
		for i := range l {
			if !is[i] && plainCome(l, is, i) {
				is[i], again = true, true
			}
		}
	}
	return is, api.OK
}

// plainMoved tells lines with each target put in another one's place.
func plainMoved(l []api.Line, f func(to int) int) []api.Line {
	var out []api.Line
	for _, x := range l {
		var list []int64
		for _, to := range linear.Targets(x.X) {
			list = append(list, int64(f(int(to))))
		}
		x.X, _ = linear.Moved(x.X, list)
		out = append(out, x)
	}
	return out
}

// plainRight: does a jump lead right behind itself?
func plainRight(l []api.Line, i int) bool {
	for _, x := range l[i+1:] {
		if !plainIsLabel(x) {
			return false
		}
		if l[i].X.Op == api.OpJump && int64(x.Label) == l[i].X.A {
			return true
		}
	}
	return false
}

// plainWithout leaves out the lines of which f says so.
func plainWithout(l []api.Line, f func(i int) bool) []api.Line {
	var out []api.Line
	for i, x := range l {
		if !f(i) {
			out = append(out, x)
		}
	}
	return out
}

func plainRound(l []api.Line) []api.Line {
	led := plainMoved(l, func(to int) int {
		end, _ := plainLeads(l, to)
		return end
	})
	is, _ := plainReached(led)
	come := plainWithout(led, func(i int) bool { return !plainIsLabel(led[i]) && !is[i] })
	out, _ := linear.Normal(plainWithout(come, func(i int) bool { return plainRight(come, i) }))
	return out
}

// plainThin tells how many rounds changed something, too.
func plainThin(l []api.Line) ([]api.Line, int, api.Errno) {
	if err := linear.Check(l); err != api.OK {
		return nil, 0, err
	}
	for n := 0; ; n++ {
		next := plainRound(l)
		if linear.Same(next, l) {
			return next, n, api.OK
		}
		l = next
	}
}
