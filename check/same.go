package check

import (
	"slices"

	"trammel/api"
)

// Same: are two programs the same, but for Nodes?
func Same(a, b api.Program) bool {
	if !slices.EqualFunc(a.Types, b.Types, sameType) || !slices.EqualFunc(a.Funcs, b.Funcs, sameHead) {
		return false
	}
	return sameTerms(bodies(a.Funcs...), bodies(b.Funcs...))
}

func sameType(a, b api.Type) bool {
	return a.Kind == b.Kind && a.Name == b.Name && a.Elem == b.Elem && a.Len == b.Len && slices.Equal(a.Fields, b.Fields)
}

// sameHead: are two functions the same, but for Nodes and for their bodies?
func sameHead(a, b api.Func) bool {
	return a.Name == b.Name && slices.Equal(a.Params, b.Params) && slices.Equal(a.Results, b.Results) && slices.Equal(a.Slots, b.Slots)
}

func bodies(funcs ...api.Func) []api.Term {
	list := make([]api.Term, len(funcs))
	for i, f := range funcs {
		list[i] = f.Body
	}
	return list
}

// sameTerms: are the terms of two lists the same, with all that is in them?
func sameTerms(a, b []api.Term) bool {
	met := map[mark]struct{}{}
	todo := []twins{{a, b}} // a list, since terms may be deeper than calls should be
	for len(todo) > 0 {
		t := todo[len(todo)-1]
		todo = todo[:len(todo)-1]
		if !slices.EqualFunc(t.a, t.b, alike) {
			return false
		}
		for i := range t.a {
			kids := twins{t.a[i].Kids, t.b[i].Kids}
			if len(kids.a) == 0 {
				continue
			}
			if _, again := met[kids.mark()]; !again {
				met[kids.mark()] = struct{}{}
				todo = append(todo, kids)
			}
		}
	}
	return true
}

// alike: are two terms the same, but for what their Kids are?
func alike(a, b api.Term) bool {
	return a.Op == b.Op && a.Type == b.Type && a.N == b.N && a.Text == b.Text && len(a.Kids) == len(b.Kids)
}

// twins are two lists of as many terms, which stand in the same place of two programs.
type twins struct{ a, b []api.Term }

// mark tells which two lists were held against each other. They need not be again: so terms that hold themselves, or one part
// very often, come to an end, too.
type mark struct {
	a, b  *api.Term // where they begin
	count int
}

func (t twins) mark() mark { return mark{&t.a[0], &t.b[0], len(t.a)} }
