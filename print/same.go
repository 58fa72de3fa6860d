package print

import (
	"slices"

	"trammel/api"
)

// Same: are two trees the same but for places?
func Same(a, b api.Node) bool {
	met := map[mark]struct{}{}
	todo := []twins{{[]api.Node{a}, []api.Node{b}}} // a list, since trees may be deeper than calls should be
	for len(todo) > 0 {
		t := todo[len(todo)-1]
		todo = todo[:len(todo)-1]
		if !slices.EqualFunc(t.a, t.b, alike) {
			return false
		}
		for i := range t.a {
			kids := twins{t.a[i].Kids, t.b[i].Kids}
			if len(kids.a) == 0 {
				continue
			}
			if _, again := met[kids.mark()]; !again {
				met[kids.mark()] = struct{}{}
				todo = append(todo, kids)
			}
		}
	}
	return true
}

// alike: are two nodes the same, but for places and for what their Kids are?
func alike(a, b api.Node) bool {
	return a.Kind == b.Kind && a.Text == b.Text && a.N == b.N && len(a.Kids) == len(b.Kids)
}

// twins are two lists of as many nodes, which stand in the same place of two trees.
type twins struct{ a, b []api.Node }

// mark tells which two lists were held against each other. They need not be again: so a tree that holds itself, or one part very
// often, comes to an end, too.
type mark struct {
	a, b  *api.Node // where they begin
	count int
}

func (t twins) mark() mark { return mark{&t.a[0], &t.b[0], len(t.a)} }
