package heap

// thing is what a reference stands for. The heap alone makes such: a text, a fixed one, or a growing one.
type thing interface {
	typeOf() int
	length() int
}

// common is what all things have.
type common struct{ typ int }

func (c common) typeOf() int { return c.typ }

// text is a thing of bytes.
type text struct {
	common
	bytes string
}

func (t *text) length() int { return len(t.bytes) }

// row is a thing of words.
type row struct {
	common
	words []uint64
}

func (r *row) length() int { return len(r.words) }

// fixed is a record, or a fixed array: it keeps as many words as it was made with.
type fixed struct{ row }

// growing is an array that grows.
type growing struct{ row }

// rowOf tells the words of a thing, and whether it may grow; nil of a text and of nothing. What a thing is, it tells by what it was
// made as: its type is any number, which another kind of thing may have as well.
func rowOf(x thing) (r *row, grows bool) {
	switch x := x.(type) {
	case *fixed:
		return &x.row, false
	case *growing:
		return &x.row, true
	}
	return nil, false
}

// textOf tells the bytes of a text; false, if the thing is none.
func textOf(x thing) (string, bool) {
	if t, ok := x.(*text); ok {
		return t.bytes, true
	}
	return "", false
}
