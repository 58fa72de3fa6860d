package kinds

import (
	"strconv"
	"strings"

	"trammel/api"
)

// Get tells the type of a number, in any list of types.
func Get(l []api.Type, typ int) (api.Type, bool) {
	t, ok := standing(l, typ)
	return copied(t), ok
}

// Name tells how a type is written, in any list of types.
func Name(l []api.Type, typ int) string {
	var out strings.Builder
	for range len(l) + 1 { // in more arrays than there are types the Elems lead round in a ring
		t, _ := standing(l, typ)
		switch t.Kind {
		case api.Fixed:
			out.WriteString("[" + strconv.Itoa(t.Len) + "]")
		case api.Grow:
			out.WriteString("[]")
		default:
			out.WriteString(nameOf(t))
			return out.String()
		}
		typ = t.Elem
	}
	out.WriteString("?")
	return out.String()
}

// standing tells the type of a number as Get does, but for its fields' memory, which is the list's.
func standing(l []api.Type, typ int) (api.Type, bool) {
	if isFive(typ) {
		return api.Type{Kind: uint8(typ)}, true
	}
	at, ok := placeOf(l, typ)
	if !ok {
		return api.Type{}, false
	}
	return l[at], true
}

// nameOf tells the name of a type that is no array. Its Kind is asked and not its number, since a list made by hand may hold a
// type with the Kind of one of the five.
func nameOf(t api.Type) string {
	kind := int(t.Kind)
	switch {
	case kind == api.Record:
		return t.Name
	case isFive(kind):
		return five[kind-api.I8]
	}
	return ""
}
