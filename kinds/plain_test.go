package kinds

import (
	"slices"
	"strconv"
	"strings"

	"trammel/api"
	"trammel/lex"
	"trammel/parse"
)

// plainFive are the five as the chapter counts them.
var plainFive = []string{"", "i8", "i32", "i64", "bool", "bytes"}

// plainTable is a second reading of the chapter, which knows types by how they are written alone: those of the table in their
// order, the records' names first.
type plainTable struct {
	texts  []string
	fields map[string][]api.Field // of records, by names
}

// plainOf tells what Of must.
func plainOf(n api.Node) (*plainTable, int, api.Errno) {
	if wrong := parse.Check(n); wrong != api.OK {
		return nil, 0, wrong
	}
	if n.Kind != api.NProgram {
		return nil, 0, api.ErrTree
	}
	t := &plainTable{fields: map[string][]api.Field{}}
	for _, k := range n.Kids {
		if k.Kind == api.NRecord && len(t.texts) >= 64 {
			return nil, k.At, api.ErrLimit
		}
		if k.Kind == api.NRecord && slices.Contains(t.texts, k.Text) {
			return nil, k.At, api.ErrTwice
		}
		if k.Kind == api.NRecord {
			t.texts = append(t.texts, k.Text)
		}
	}
	place, wrong := t.pass(n, api.Node{})
	if wrong != api.OK {
		return nil, place, wrong
	}
	return t, 0, api.OK
}

// pass goes through a node that stands in another: first its Kids, then it itself.
func (t *plainTable) pass(n, in api.Node) (int, api.Errno) {
	for _, k := range n.Kids {
		if place, wrong := t.pass(k, n); wrong != api.OK {
			return place, wrong
		}
	}
	switch n.Kind {
	case api.NField:
		return n.At, t.passField(n, in)
	case api.NNamed:
		if t.number(n.Text) == 0 {
			return n.At, api.ErrType
		}
	case api.NFixed, api.NGrow:
		text := plainType(n)
		if n.Kind == api.NFixed && (n.N < 1 || n.N > 65536) {
			return n.At, api.ErrLen
		}
		if t.number(text) == 0 {
			t.texts = append(t.texts, text)
		}
		if len(t.texts) > 256 {
			return n.At, api.ErrLimit
		}
	}
	return 0, api.OK
}

func (t *plainTable) passField(n, in api.Node) api.Errno {
	if in.Kind != api.NRecord {
		return api.OK
	}
	ahead := t.fields[in.Text]
	if len(ahead) >= 32 {
		return api.ErrLimit
	}
	for _, f := range ahead {
		if f.Name == n.Text {
			return api.ErrTwice
		}
	}
	t.fields[in.Text] = append(ahead, api.Field{Name: n.Text, Type: t.number(plainType(n.Kids[0]))})
	return api.OK
}

// plainType writes a tree of a type.
func plainType(n api.Node) string {
	switch n.Kind {
	case api.NFixed:
		return "[" + strconv.FormatUint(n.N, 10) + "]" + plainType(n.Kids[0])
	case api.NGrow:
		return "[]" + plainType(n.Kids[0])
	}
	return n.Text
}

// number tells the number of what is written so.
func (t *plainTable) number(text string) int {
	if i := slices.Index(plainFive, text); i > 0 {
		return i
	}
	if i := slices.Index(t.texts, text); i >= 0 {
		return 16 + i
	}
	return 0
}

func (t *plainTable) types() []api.Type {
	var list []api.Type
	for _, text := range t.texts {
		length, elem, array := strings.Cut(strings.TrimPrefix(text, "["), "]")
		switch {
		case !array:
			list = append(list, api.Type{Kind: 6, Name: text, Fields: t.fields[text]})
		case length == "":
			list = append(list, api.Type{Kind: 8, Elem: t.number(elem)})
		default:
			n, _ := strconv.Atoi(length)
			list = append(list, api.Type{Kind: 7, Elem: t.number(elem), Len: n})
		}
	}
	return list
}

// plainCheck tells what Check must, each of the chapter's words for itself, over all the types and all pairs of them.
func plainCheck(l []api.Type) api.Errno {
	if len(l) > 256 {
		return api.ErrLimit
	}
	records := 0
	known := func(typ int) bool { return typ >= 1 && typ <= 5 || typ >= 16 && typ < 16+len(l) }
	for i, t := range l {
		fits := false
		switch t.Kind {
		case 6:
			records++
			fits = lex.Name(t.Name) && t.Elem == 0 && t.Len == 0 && len(t.Fields) <= 32 && records <= 64
		case 7:
			fits = t.Len >= 1 && t.Len <= 65536
		case 8:
			fits = t.Len == 0
		}
		if t.Kind == 7 || t.Kind == 8 {
			record := known(t.Elem) && t.Elem >= 16 && l[t.Elem-16].Kind == 6
			fits = fits && known(t.Elem) && (t.Elem <= 5 || record || t.Elem-16 < i) && t.Name == "" && len(t.Fields) == 0
		}
		for _, ahead := range l[:i] {
			if t.Kind == 6 {
				fits = fits && ahead.Kind == 6 && ahead.Name != t.Name
			} else {
				fits = fits && !(ahead.Kind == t.Kind && ahead.Elem == t.Elem && ahead.Len == t.Len)
			}
		}
		for k, f := range t.Fields {
			same := func(g api.Field) bool { return g.Name == f.Name }
			fits = fits && lex.Name(f.Name) && known(f.Type) && slices.IndexFunc(t.Fields, same) == k
		}
		if !fits {
			return api.ErrTree
		}
	}
	return api.OK
}

// plainName tells what Name must, behind so many arrays.
func plainName(l []api.Type, typ, arrays int) string {
	if arrays == len(l)+1 {
		return "?"
	}
	if typ >= 1 && typ <= 5 {
		return plainFive[typ]
	}
	if typ < 16 || typ >= 16+len(l) {
		return ""
	}
	switch t := l[typ-16]; t.Kind {
	case 1, 2, 3, 4, 5:
		return plainFive[t.Kind]
	case 6:
		return t.Name
	case 7:
		return "[" + strconv.Itoa(t.Len) + "]" + plainName(l, t.Elem, arrays+1)
	case 8:
		return "[]" + plainName(l, t.Elem, arrays+1)
	}
	return ""
}
