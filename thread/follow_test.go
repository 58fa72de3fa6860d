package thread

import (
	"testing"

	"trammel/api"
	"trammel/linear"
)

// Where one stands in a run of lines that may be: at an instruction that is no jump, or at one of the two ends that no instruction makes.
const (
	atEnd   = -1 // behind the last line
	forEver = -2 // in a ring of jumps
)

// stand tells where a run comes to from a line on, behind its labels and jumps.
func stand(l []api.Line, i int) int {
	for range 2 * (len(l) + 1) { // more jumps than there are lead round
		for i < len(l) && plainIsLabel(l[i]) {
			i++
		}
		if i == len(l) {
			return atEnd
		}
		if l[i].X.Op != api.OpJump {
			return i
		}
		i = plainAt(l, int(l[i].X.A))
	}
	return forEver
}

// ways tells where a run may go on from an instruction: whatever is decided, in one order.
func ways(l []api.Line, i int) []int {
	var list []int
	for _, to := range linear.Targets(l[i].X) {
		list = append(list, stand(l, plainAt(l, int(to))))
	}
	if op := l[i].X.Op; op != api.OpSwitch && op != api.OpReturn && op != api.OpTrap {
		list = append(list, stand(l, i+1))
	}
	return list
}

// alike holds two rows to doing the same instructions but jumps, whatever is decided: each pair of places to which one row of decisions leads
// is looked at.
func alike(t *testing.T, a, b []api.Line) {
	t.Helper()
	first := [2]int{stand(a, 0), stand(b, 0)}
	todo := [][2]int{first}
	seen := map[[2]int]bool{first: true}
	without := func(l []api.Line, i int) []api.Line { return plainMoved(l[i:i+1], func(int) int { return 0 }) }
	for len(todo) > 0 {
		x, y := todo[0][0], todo[0][1]
		todo = todo[1:]
		if x < 0 || y < 0 {
			if x != y {
				t.Fatalf("%s comes to %d, %s to %d", tell(a), x, tell(b), y)
			}
			continue
		}
		if !linear.Same(without(a, x), without(b, y)) {
			t.Fatalf("%s does %v, %s does %v", tell(a), a[x], tell(b), b[y])
		}
		list := ways(b, y)
		for i, to := range ways(a, x) {
			if p := [2]int{to, list[i]}; !seen[p] {
				seen[p] = true
				todo = append(todo, p)
			}
		}
	}
}

func instrs(l []api.Line) int {
	n := 0
	for _, x := range l {
		if !plainIsLabel(x) {
			n++
		}
	}
	return n
}

// isThin holds lines to what Thin leaves: nothing to be done.
func isThin(t *testing.T, l []api.Line) {
	t.Helper()
	if again, err := Thin(l); err != api.OK || !linear.Same(again, l) {
		t.Fatalf("Thin(%s) = %s, %d", tell(l), tell(again), err)
	}
	if n, err := linear.Normal(l); err != api.OK || !linear.Same(n, l) {
		t.Fatalf("Normal of %s: %s, %d", tell(l), tell(n), err)
	}
	is, err := Reached(l)
	for i, x := range l {
		if !is[i] || err != api.OK {
			t.Fatalf("line %d of %s is not come to", i, tell(l))
		}
		if plainRight(l, i) {
			t.Fatalf("line %d of %s leads right behind itself", i, tell(l))
		}
		for _, to := range linear.Targets(x.X) {
			behind, ok := plainBehind(l, plainAt(l, int(to)))
			if _, ring := plainWay(l, int(to)); ok && behind.Op == api.OpJump && !ring {
				t.Fatalf("the target %d of line %d of %s stands ahead of a jump", to, i, tell(l))
			}
		}
	}
}

// follows holds lines that may be to what follows from the promises.
func follows(t *testing.T, l []api.Line) {
	t.Helper()
	thin, err := Thin(l)
	if err != api.OK {
		t.Fatalf("Thin(%s): %d", tell(l), err)
	}
	isThin(t, thin)
	alike(t, l, thin)
	if instrs(thin) > instrs(l) {
		t.Fatalf("Thin(%s) = %s", tell(l), tell(thin))
	}
}

func TestP17_4EachShortRow(t *testing.T) {
	letters := row(at(0), at(1), jump(0), jump(1), yes(), when(1), do(api.OpUnless, 0), choose(1, 0, 5, 1), back())
	n := 0
	for length := range 6 {
		for l := range rowsOf(length, letters) {
			if linear.Check(l) == api.OK {
				follows(t, l)
				n++
			}
		}
	}
	if n < 1000 {
		t.Errorf("%d rows may be", n)
	}
}

func TestP17_4AtWill(t *testing.T) {
	m := madeBy(174)
	for range 15000 {
		follows(t, m.lines())
		follows(t, m.rings())
	}
}
