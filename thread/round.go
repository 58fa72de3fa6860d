package thread

import (
	"slices"

	"trammel/api"
	"trammel/linear"
)

// round makes a round of lines that may be, and with it all later ones that would but leave out jumps (see straight).
func (r *road) round(l []api.Line) []api.Line {
	r.lay(l)
	l = r.led(l)
	l = straight(kept(l, r.reached(l)))
	out, _ := linear.Normal(l) // no label was left out
	return out
}

// led tells the lines with each target where it leads.
func (r *road) led(l []api.Line) []api.Line {
	out := make([]api.Line, 0, len(l))
	for _, x := range l {
		to := linear.Targets(x.X)
		for i := range to {
			to[i] = r.leads(to[i])
		}
		x.X, _ = linear.Moved(x.X, to) // as many as there were
		out = append(out, x)
	}
	return out
}

// kept tells the lines without the instructions that are not come to.
func kept(l []api.Line, is []bool) []api.Line {
	var out []api.Line
	for i, x := range l {
		if x.X.Op == 0 || is[i] {
			out = append(out, x)
		}
	}
	return out
}

// straight tells the lines without the jumps that lead right behind themselves. A jump that is left out stands between no other one and its
// target any more: that a round finds one of them alone, and the next round the next one, would make as many rounds as there are jumps, so
// they are asked from the last one on.
func straight(l []api.Line) []api.Line {
	var out []api.Line
	stay := 0
	behind := map[int64]int{} // of each label how many instructions stay behind it
	for _, x := range slices.Backward(l) {
		switch x.X.Op {
		case 0:
			behind[int64(x.Label)] = stay
		case api.OpJump:
			if n, ok := behind[x.X.A]; ok && n == stay {
				continue
			}
			stay++
		default:
			stay++
		}
		out = append(out, x)
	}
	slices.Reverse(out)
	return out
}
