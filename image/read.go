package image

import (
	"math"

	"trammel/api"
	"trammel/wire"
)

// fault is what a reader gives up with: what is wrong first, and where.
type fault struct {
	at  int
	err api.Errno
}

// reader goes through a module's bytes from left to right. It gives up by a panic with a fault, so that none of those who read parts of
// parts has to ask whether there was one.
type reader struct {
	image []byte // from head on up to the body's end alone
	at    int
}

func (r *reader) giveUp(at int, err api.Errno) { panic(fault{at, err}) }

// giveUpShort tells that bytes are wanting: where all end, however much of what was to come is there.
func (r *reader) giveUpShort() { r.giveUp(len(r.image), api.ErrShort) }

// head reads what stands around the body, and stands at the body's first byte then.
func (r *reader) head() {
	r.mark()
	if len(r.image) < headSize {
		r.giveUpShort()
	}
	length, _, _ := wire.Wide(r.image, len(mark), lengthSize)
	size := uint64(headSize) + length + sumSize
	if uint64(len(r.image)) < size {
		r.giveUpShort()
	}
	if uint64(len(r.image)) > size {
		r.giveUp(int(size), api.ErrModule)
	}
	end := headSize + int(length)
	sum, _, _ := wire.Wide(r.image, end, sumSize)
	if sum != uint64(wire.Sum(r.image[headSize:end]...)) {
		r.giveUp(end, api.ErrModule)
	}
	r.image, r.at = r.image[:end], headSize
}

func (r *reader) mark() {
	for i := range min(len(mark), len(r.image)) {
		if r.image[i] != mark[i] {
			r.giveUp(i, api.ErrModule)
		}
	}
}

// kind reads the Kind of a type of a table.
func (r *reader) kind() uint8 {
	k := r.bytes(1)[0]
	if k != api.Record && k != api.Fixed && k != api.Grow {
		r.giveUp(r.at-1, api.ErrModule)
	}
	return k
}

func (r *reader) number() int {
	n, next, err := wire.Get(r.image, r.at)
	switch {
	case err == api.ErrShort:
		r.giveUpShort()
	case err != api.OK:
		r.giveUp(r.at, err)
	case n > math.MaxInt32:
		r.giveUp(r.at, api.ErrModule)
	}
	r.at = next
	return int(n)
}

// count reads how many there are of what a module may have so many of.
func (r *reader) count(limit int) int {
	at := r.at
	n := r.number()
	if n > limit {
		r.giveUp(at, api.ErrLimit)
	}
	return n
}

// bytes reads so many bytes: a piece of the image, to be looked at or copied.
func (r *reader) bytes(size int) []byte {
	if size > len(r.image)-r.at {
		r.giveUpShort()
	}
	at := r.at
	r.at += size
	return r.image[at:r.at]
}

func (r *reader) text() string { return string(r.bytes(r.count(api.MaxText))) }

// code answers nil of no bytes: an empty piece would hold the image.
func (r *reader) code() []byte { return append([]byte(nil), r.bytes(r.count(api.MaxCode))...) }

// several reads things one behind the other. They are put one by one: how many there are is anybody's word till their bytes are seen.
func several[T any](n int, read func() T) []T {
	var list []T
	for range n {
		list = append(list, read())
	}
	return list
}

func (r *reader) module() api.Module {
	var m api.Module
	m.Types = several(r.count(api.MaxTypes), r.typ)
	m.Texts = several(r.count(api.MaxTexts), r.text)
	m.Funcs = several(r.count(api.MaxFuncs), r.routine)
	if r.at < len(r.image) {
		r.giveUp(r.at, api.ErrModule)
	}
	return m
}

func (r *reader) typ() api.Type {
	x := api.Type{Kind: r.kind()}
	switch x.Kind {
	case api.Record:
		x.Name = r.text()
		x.Fields = several(r.count(api.MaxFields), r.field)
	case api.Fixed:
		x.Elem = r.number()
		x.Len = r.number()
	case api.Grow:
		x.Elem = r.number()
	}
	return x
}

func (r *reader) field() api.Field {
	name := r.text()
	return api.Field{Name: name, Type: r.number()}
}

func (r *reader) routine() api.Routine {
	var f api.Routine
	f.Name = r.text()
	f.Params = several(r.count(api.MaxParams), r.number)
	f.Results = several(r.count(api.MaxResults), r.number)
	f.Locals = r.number()
	f.Stack = r.number()
	f.Code = r.code()
	return f
}
