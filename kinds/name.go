package kinds

import (
	"strconv"
	"strings"

	"trammel/api"
)

// Get tells the type of a number, in any list of types.
func Get(l []api.Type, typ int) (api.Type, bool) {
	if isFive(typ) {
		return api.Type{Kind: uint8(typ)}, true
	}
	at, ok := placeOf(l, typ)
	if !ok {
		return api.Type{}, false
	}
	return copied(l[at]), true
}

// Name tells how a type is written, in any list of types.
func Name(l []api.Type, typ int) string {
	var out strings.Builder
	for range len(l) + 1 { // in more arrays than there are types the Elems lead round in a ring
		if isFive(typ) {
			out.WriteString(five[typ-api.I8])
			return out.String()
		}
		at, ok := placeOf(l, typ)
		if !ok {
			return out.String()
		}
		switch l[at].Kind {
		case api.Fixed:
			out.WriteString("[" + strconv.Itoa(l[at].Len) + "]")
		case api.Grow:
			out.WriteString("[]")
		case api.Record:
			out.WriteString(l[at].Name)
			return out.String()
		default:
			return out.String()
		}
		typ = l[at].Elem
	}
	out.WriteString("?")
	return out.String()
}
