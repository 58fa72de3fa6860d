package kinds

import (
	"trammel/api"
	"trammel/lex"
)

// Check tells whether a list of types, whoever made it, may be the one of a table.
func Check(l []api.Type) api.Errno {
	if len(l) > api.MaxTypes {
		return api.ErrLimit
	}
	ahead := newLookup()
	for _, t := range l {
		if !ahead.takes(t) || !fieldsFit(t.Fields, l) {
			return api.ErrTree
		}
		ahead.add(t)
	}
	return api.OK
}

// takes: may a type stand behind those that are there, but for what its fields are?
func (l *lookup) takes(t api.Type) bool {
	switch t.Kind {
	case api.Record:
		return l.takesRecord(t)
	case api.Fixed:
		return isLen(uint64(t.Len)) && l.takesArray(t) // one below 0 is huge then
	case api.Grow:
		return t.Len == 0 && l.takesArray(t)
	}
	return false
}

func (l *lookup) takesRecord(t api.Type) bool {
	_, twice := l.names[t.Name]
	return lex.Name(t.Name) && !twice && t.Elem == 0 && t.Len == 0 && len(l.arrays) == 0 && len(l.names) < api.MaxRecords
}

// takesArray: may an array stand there, but for its length? All records stand ahead of it, so that what its elements are does.
func (l *lookup) takesArray(t api.Type) bool {
	_, twice := l.arrays[array{t.Kind, t.Elem, uint64(t.Len)}]
	return t.Name == "" && len(t.Fields) == 0 && isOf(l.types, t.Elem) && !twice
}

// fieldsFit: may these be the fields of a record, in a list of types?
func fieldsFit(fields []api.Field, l []api.Type) bool {
	if len(fields) > api.MaxFields {
		return false
	}
	names := map[string]struct{}{}
	for _, f := range fields {
		if _, twice := names[f.Name]; twice || !lex.Name(f.Name) || !isOf(l, f.Type) {
			return false
		}
		names[f.Name] = struct{}{}
	}
	return true
}

// isOf: is it the number of one of the five, or of a type of the list?
func isOf(l []api.Type, typ int) bool {
	_, ok := placeOf(l, typ)
	return ok || isFive(typ)
}
