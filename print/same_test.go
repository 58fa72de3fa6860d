package print

import (
	"math"
	"slices"
	"strings"
	"testing"

	"trammel/api"
)

// same holds Same to what is wanted, either way round.
func same(t *testing.T, x, y api.Node, want bool) {
	t.Helper()
	if Same(x, y) != want || Same(y, x) != want {
		t.Errorf("Same(%s, %s): not %v", tell(x), tell(y), want)
	}
}

func TestP5_2OneNode(t *testing.T) {
	first := api.Node{Kind: 99, At: 3, Text: "x", N: 7, Kids: []api.Node{{Kind: 98, Text: "y"}}}
	same(t, first, first, true)
	same(t, api.Node{}, api.Node{}, true)
	same(t, api.Node{}, api.Node{At: math.MinInt}, true)
	same(t, api.Node{Kids: nil}, api.Node{Kids: []api.Node{}}, true)
	same(t, api.Node{Kids: make([]api.Node, 0, 5)}, api.Node{}, true)
	for name, change := range map[string]func(n *api.Node){
		"kind": func(n *api.Node) { n.Kind = 100 }, "text": func(n *api.Node) { n.Text = "X" }, "longer text": func(n *api.Node) { n.Text = "xx" }, "no text": func(n *api.Node) { n.Text = "" }, "number": func(n *api.Node) { n.N = 8 }, "great number": func(n *api.Node) { n.N += 1 << 63 },
		"no Kids": func(n *api.Node) { n.Kids = nil }, "a Kid more": func(n *api.Node) { n.Kids = append(slices.Clone(n.Kids), n.Kids[0]) }, "another Kid": func(n *api.Node) { n.Kids = []api.Node{{Kind: 98, Text: "z"}} }, "a Kid's Kid": func(n *api.Node) { n.Kids = []api.Node{{Kind: 98, Text: "y", Kids: []api.Node{{}}}} },
	} {
		other := first
		change(&other)
		if Same(first, other) || Same(other, first) {
			t.Errorf("another %s: the same", name)
		}
	}
	same(t, node(5, a, b), node(5, b, a), false)
	same(t, node(5, a, a, b), node(5, a, b, b), false)
	same(t, node(5, node(6, a), b), node(5, node(6, a, b)), false)
	same(t, node(5, node(6, a), node(6)), node(5, node(6), node(6, a)), false)
	same(t, named(5, "\xff"), named(5, "\xfe"), false)
}

// Trees made at will: with other places and with empty lists they are the same, with one thing changed somewhere they are not.
func TestP5_2AtWill(t *testing.T) {
	m := newMaker(53)
	for range 2000 {
		n := m.program()
		moved := copied(n)
		m.move(&moved)
		same(t, n, moved, true)
		moved.Kids = emptied(moved.Kids)
		same(t, n, moved, true)
		count := 0
		each(&moved, func(*api.Node) { count++ })
		for range 10 {
			other := copied(moved)
			left := m.Intn(count)
			each(&other, func(k *api.Node) {
				if left == 0 {
					m.spoil(k)
				}
				left--
			})
			same(t, n, other, false)
		}
		other := m.program()
		same(t, n, other, equal(n, other))
	}
}

func copied(n api.Node) api.Node {
	n.Kids = slices.Clone(n.Kids)
	for i, k := range n.Kids {
		n.Kids[i] = copied(k)
	}
	return n
}

// each calls f with each node of a tree.
func each(n *api.Node, f func(*api.Node)) {
	for i := range n.Kids {
		each(&n.Kids[i], f)
	}
	f(n)
}

// spoil changes one thing of a node, whether it may be then or not.
func (m maker) spoil(n *api.Node) {
	switch m.Intn(5) {
	case 0:
		n.Kind += uint8(1 + m.Intn(255))
	case 1:
		n.Text += "x"
	case 2:
		n.N ^= 1 << m.Intn(64)
	case 3:
		n.Kids = append(n.Kids, api.Node{})
	case 4:
		if len(n.Kids) == 0 {
			n.N++
			return
		}
		n.Kids = n.Kids[:len(n.Kids)-1]
	}
}

// Trees that are very deep, very wide, hold one part very often, or hold themselves: the answer comes, and comes soon.
func TestP5_2AnyTrees(t *testing.T) {
	deep := func(innermost api.Node) api.Node { return nested(1<<18, innermost, 200) }
	same(t, deep(a), deep(a), true)
	same(t, deep(a), deep(b), false)
	same(t, deep(a), node(200, deep(a)), false)
	wide := func(last api.Node) api.Node { return node(0, append(make([]api.Node, 1<<18), last)...) }
	same(t, wide(a), wide(a), true)
	same(t, wide(a), wide(b), false)
	often := func(innermost api.Node) api.Node {
		n := innermost
		for range 60 {
			n = node(3, n, n, n)
		}
		return n
	}
	same(t, often(a), often(a), true)
	same(t, often(a), often(b), false)
	shared := often(a)
	same(t, shared, shared, true)
	round := func(nodes int, text string) api.Node {
		ring := make([]api.Node, nodes)
		for i := range ring {
			ring[i] = node(4, a, ring[0])
		}
		for i := range ring {
			ring[i].Kids[1] = node(4)
			ring[i].Kids[1].Kids = ring[(i+1)%nodes].Kids
		}
		ring[nodes-1].Kids[0].Text = text
		return ring[0]
	}
	same(t, round(1, "a"), round(1, "a"), true)
	same(t, round(2, "a"), round(3, "a"), true)
	same(t, round(2, "a"), round(3, "b"), false)
	same(t, round(6, "b"), round(4, "b"), false)
	same(t, round(5, "a"), node(4, a, a), false)
}

// Lists that begin in the same memory, but are not of one length, are not one list.
func TestP5_2SharedLists(t *testing.T) {
	long := []api.Node{a, b}
	same(t, node(1, node(2, long[:1]...), node(2, long...)), node(1, node(2, long[:1]...), node(2, a, a)), false)
	other := []api.Node{a, a}
	same(t, node(1, node(2, long...), node(2, long[:1]...)), node(1, node(2, other...), node(2, other[:1]...)), false)
	same(t, node(1, node(2, long[:1]...), node(2, long...)), node(1, node(2, other[:1]...), node(2, other...)), false)
	same(t, node(1, node(2, long[:1]...), node(2, other...)), node(1, node(2, other[:1]...), node(2, long[0], long[0])), true)
	same(t, named(1, strings.Repeat("a", 1<<20)), named(1, strings.Repeat("a", 1<<20)), true)
}
