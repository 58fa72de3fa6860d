package check

import (
	"slices"

	"trammel/api"
	"trammel/kinds"
	"trammel/lex"
)

// Valid tells whether a program, whoever made it, may be.
func Valid(p api.Program) api.Errno {
	for _, f := range p.Funcs {
		if !isSmall(f.Body) {
			return api.ErrLimit
		}
	}
	if r := (rules{p}); !r.headsFit() || !r.bodiesFit() {
		return api.ErrTree
	}
	return api.OK
}

// isSmall: has a term at most MaxNodes terms, it counted? It may hold itself, so no more than these are looked at.
func isSmall(t api.Term) bool {
	left := api.MaxNodes - 1
	todo := [][]api.Term{t.Kids}
	for len(todo) > 0 {
		kids := todo[len(todo)-1]
		todo = todo[:len(todo)-1]
		if len(kids) > left {
			return false
		}
		left -= len(kids)
		for _, kid := range kids {
			todo = append(todo, kid.Kids)
		}
	}
	return true
}

// headsFit: may the types and the functions be, but for these' bodies?
func (r rules) headsFit() bool {
	if kinds.Check(r.Types) != api.OK || len(r.Funcs) > api.MaxFuncs {
		return false
	}
	names := map[string]struct{}{}
	for _, f := range r.Funcs {
		if _, twice := names[f.Name]; twice || !lex.Name(f.Name) || !r.headFits(f) {
			return false
		}
		names[f.Name] = struct{}{}
	}
	return true
}

// headFits: may a function be, but for its name and its body?
func (r rules) headFits(f api.Func) bool {
	return len(f.Params) <= api.MaxParams && len(f.Results) <= api.MaxResults && len(f.Slots) <= api.MaxLocals &&
		len(f.Params) <= len(f.Slots) && slices.Equal(f.Params, f.Slots[:len(f.Params)]) &&
		r.areTypes(f.Results...) && r.areTypes(f.Slots...) && f.Nodes >= 0
}

// areTypes: are these numbers of types?
func (r rules) areTypes(list ...int) bool {
	for _, typ := range list {
		if _, ok := kinds.Get(r.Types, typ); !ok {
			return false
		}
	}
	return true
}

func (r rules) bodiesFit() bool {
	for _, f := range r.Funcs {
		if v := newVisit(r, f); !v.block(f.Body) {
			return false
		}
	}
	return true
}
