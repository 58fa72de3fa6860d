package thread

import (
	"slices"

	"trammel/api"
	"trammel/linear"
)

// nowhere is where a way ends that goes round in a ring: no label has that number.
const nowhere = -1

// road is where the labels of lines stand, and where they lead. All rounds go over one road, whose maps are cleared and not made anew.
type road struct {
	at    map[int64]int      // of each label the line in which it stands
	jumps map[int64]int64    // of each label ahead of a jump that jump's target
	ends  map[int64]int64    // of each label that a way came to where that way ends
	come  map[int64]struct{} // the labels to which what is come to leads
}

func newRoad() *road {
	return &road{map[int64]int{}, map[int64]int64{}, map[int64]int64{}, map[int64]struct{}{}}
}

// lay makes the road that of lines, which may be.
func (r *road) lay(l []api.Line) {
	clear(r.at)
	clear(r.jumps)
	clear(r.ends)
	var behind api.Instr
	for i, x := range slices.Backward(l) {
		if x.X.Op != 0 {
			behind = x.X
			continue
		}
		r.at[int64(x.Label)] = i
		if behind.Op == api.OpJump {
			r.jumps[int64(x.Label)] = behind.A
		}
	}
}

// leads tells where a label leads. It keeps where each label's way ends that it comes to, so that none is gone twice, however long a row of jumps is.
func (r *road) leads(label int64) int64 {
	var way []int64
	at := label
	end, known := r.ends[at]
	for !known {
		way = append(way, at)
		r.ends[at] = nowhere // till the end is known: the way that comes to this label now comes back to it
		to, ahead := r.jumps[at]
		if !ahead {
			end = at
			break
		}
		at = to
		end, known = r.ends[at]
	}
	for _, x := range way {
		r.ends[x] = end
	}
	if end == nowhere {
		return label
	}
	return end
}

// reached tells of each of the road's lines whether it is come to; targets may have become other ones since it was laid.
func (r *road) reached(l []api.Line) []bool {
	clear(r.come)
	is := make([]bool, len(l))
	heads := []int{0}
heads:
	for len(heads) > 0 {
		first := heads[len(heads)-1]
		heads = heads[:len(heads)-1]
		for i := first; i < len(l); i++ {
			if is[i] {
				continue heads
			}
			is[i] = true
			for _, to := range linear.Targets(l[i].X) {
				if _, ok := r.come[to]; !ok {
					r.come[to] = struct{}{}
					heads = append(heads, r.at[to])
				}
			}
			if stops(l[i].X.Op) {
				continue heads
			}
		}
	}
	return is
}

// stops: is what stands behind such an instruction not done next?
func stops(op uint8) bool {
	return op == api.OpJump || op == api.OpSwitch || op == api.OpReturn || op == api.OpTrap
}
