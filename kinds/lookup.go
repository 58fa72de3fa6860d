package kinds

import "trammel/api"

// lookup holds types, in the order in which they were added, and finds their numbers.
type lookup struct {
	types  []api.Type
	names  map[string]int // the records' numbers
	arrays map[array]int  // the arrays' numbers
}

// array is what two arrays have in common just when they are the same type.
type array struct {
	kind   uint8
	elem   int
	length uint64
}

func newLookup() lookup {
	return lookup{names: map[string]int{}, arrays: map[array]int{}}
}

// add puts a type, which is none yet, behind the others, and tells its number.
func (l *lookup) add(t api.Type) int {
	typ := api.FirstType + len(l.types)
	l.types = append(l.types, t)
	if t.Kind == api.Record {
		l.names[t.Name] = typ
	} else {
		l.arrays[array{t.Kind, t.Elem, uint64(t.Len)}] = typ
	}
	return typ
}

// number tells the number of the type that a node tells, of which (of an array) the elements' type has the number elem; 0, if
// there is none.
func (l *lookup) number(n api.Node, elem int) int {
	switch n.Kind {
	case api.NFixed:
		return l.arrays[array{api.Fixed, elem, n.N}]
	case api.NGrow:
		return l.arrays[array{api.Grow, elem, 0}]
	}
	if typ := ofFive(n.Text); typ != 0 {
		return typ
	}
	return l.names[n.Text]
}

// field tells the place and the type's number of a record's field.
func (l *lookup) field(typ int, name string) (int, int, bool) {
	at, ok := placeOf(l.types, typ)
	if !ok {
		return 0, 0, false
	}
	for i, f := range l.types[at].Fields {
		if f.Name == name {
			return i, f.Type, true
		}
	}
	return 0, 0, false
}

// five are the names of the types 1 to 5.
var five = [...]string{"i8", "i32", "i64", "bool", "bytes"}

// ofFive tells the number of one of the five; 0, if it is none.
func ofFive(name string) int {
	for i, known := range five {
		if name == known {
			return api.I8 + i
		}
	}
	return 0
}

// isFive: is it the number of one of the five?
func isFive(typ int) bool { return typ >= api.I8 && typ <= api.Text }

// placeOf tells where in a list the type of that number stands.
func placeOf(l []api.Type, typ int) (int, bool) {
	if typ < api.FirstType || typ-api.FirstType >= len(l) {
		return 0, false
	}
	return typ - api.FirstType, true
}

// isLen: may an array be so long?
func isLen(n uint64) bool { return n >= 1 && n <= api.MaxArray }
