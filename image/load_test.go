package image

import (
	"encoding/binary"
	"math/rand"
	"slices"
	"testing"

	"trammel/api"
)

// isRefused wants an error at a place, and no module.
func isRefused(t *testing.T, name string, b []byte, at int, err api.Errno) {
	t.Helper()
	m, gotAt, got := Load(b)
	if gotAt != at || got != err || !isSame(m, api.Module{}) {
		t.Fatalf("%s: %q, %d, %d, want %d, %d", name, written(m), gotAt, got, at, err)
	}
}

// images are the bytes of some modules, small ones.
func images() [][]byte {
	r := rand.New(rand.NewSource(132))
	list := [][]byte{wrap(plainBody(api.Module{})), wrap(plainBody(sample()))}
	for range 20 {
		list = append(list, wrap(plainBody(anyModule(r))))
	}
	return list
}

func TestP13_2Ends(t *testing.T) {
	for _, b := range images() {
		for i := range b {
			isRefused(t, "cut", b[:i], i, api.ErrShort)
			isRefused(t, "cut, with room behind", slices.Grow(slices.Clone(b[:i]), 9), i, api.ErrShort)
		}
		isRefused(t, "a byte more", append(slices.Clone(b), 0), len(b), api.ErrModule)
		isRefused(t, "many bytes more", slices.Concat(b, b), len(b), api.ErrModule)
	}
}

// Each of the first four bytes another one: the first is told, whatever ends or is wrong behind it.
func TestP13_2Mark(t *testing.T) {
	for _, b := range images()[:3] {
		for i := range 4 {
			for c := range 256 {
				x := slices.Clone(b)
				x[i] = byte(c)
				if x[i] == b[i] {
					continue
				}
				isRefused(t, "the mark", x, i, api.ErrModule)
				for n := range i + 1 {
					isRefused(t, "the mark, cut ahead", x[:n], n, api.ErrShort)
				}
				isRefused(t, "the mark, cut", x[:i+1], i, api.ErrModule)
				x[len(x)-1]++
				isRefused(t, "the mark, and more", append(x, 0), i, api.ErrModule)
				copy(x[i+1:8], []byte{0, 0, 0, 0, 0, 0, 0})
				isRefused(t, "the mark, and all behind it", x, i, api.ErrModule)
			}
		}
	}
}

func TestP13_2Length(t *testing.T) {
	for _, b := range images() {
		n := len(b) - 12
		for _, told := range []int{n + 1, n + 2, n + 4, n + 256, 1 << 16, 1 << 24, 1<<31 - 1, 1 << 31, 1<<32 - 13, 1<<32 - 12, 1<<32 - 1} {
			x := slices.Clone(b)
			binary.LittleEndian.PutUint32(x[4:], uint32(told))
			isRefused(t, "a greater length", x, len(x), api.ErrShort)
			x[8]++
			isRefused(t, "a greater length, and more wrong", x, len(x), api.ErrShort)
		}
		for told := range n {
			x := slices.Clone(b)
			binary.LittleEndian.PutUint32(x[4:], uint32(told))
			isRefused(t, "a smaller length", x, told+12, api.ErrModule)
		}
	}
}

func TestP13_2Sum(t *testing.T) {
	for _, b := range images() {
		end := len(b) - 4
		for i := end; i < len(b); i++ {
			for bit := range 8 {
				x := slices.Clone(b)
				x[i] ^= 1 << bit
				isRefused(t, "another sum", x, end, api.ErrModule)
			}
		}
		x := slices.Clone(b)
		slices.Reverse(x[end:])
		isRefused(t, "the sum turned round", x, end, api.ErrModule)
		x = slices.Clone(b)
		x[8] = 0xff
		isRefused(t, "another body", x, end, api.ErrModule)
		x = append(slices.Clone(b), 0)
		x[end]++
		isRefused(t, "another sum, and more behind", x, len(b), api.ErrModule)
	}
}

func TestP13_2TooLong(t *testing.T) {
	b, err := Encode(ofSize(t, 2097152))
	if err != api.OK || len(b) != 2097152 {
		t.Fatalf("Encode: %d bytes, %d", len(b), err)
	}
	if _, at, err := Load(b); at != 0 || err != api.OK {
		t.Errorf("Load of 2097152 bytes: %d, %d", at, err)
	}
	isRefused(t, "2097153 bytes", append(b, 0), 0, api.ErrLimit)
	isRefused(t, "2097153 bytes that are one module's", wrap(plainBody(ofSize(t, 2097153))), 0, api.ErrLimit)
	isRefused(t, "2097153 noughts", make([]byte, 2097153), 0, api.ErrLimit)
	isRefused(t, "2097152 noughts", make([]byte, 2097152), 0, api.ErrModule)
	b[0] = 0
	isRefused(t, "2097153 bytes with another mark", append(b, 0), 0, api.ErrLimit)
}

// part is a piece of a body: a number (limit: how many there may be; 0: it tells no such thing), or something else.
type part struct {
	bytes  []byte
	number bool
	limit  int
}

// parts is a body in pieces.
type parts []part

func (p *parts) number(n, limit int) {
	*p = append(*p, part{binary.AppendUvarint(nil, uint64(n)), true, limit})
}

func (p *parts) text(s string, limit int) {
	p.number(len(s), limit)
	*p = append(*p, part{bytes: []byte(s)})
}

func (p *parts) list(l []int, limit int) {
	p.number(len(l), limit)
	for _, n := range l {
		p.number(n, 0)
	}
}

func (p *parts) typ(x api.Type) {
	*p = append(*p, part{bytes: []byte{x.Kind}})
	if x.Kind == api.Record {
		p.text(x.Name, 65536)
		p.number(len(x.Fields), 32)
		for _, f := range x.Fields {
			p.text(f.Name, 65536)
			p.number(f.Type, 0)
		}
		return
	}
	p.number(x.Elem, 0)
	if x.Kind == api.Fixed {
		p.number(x.Len, 0)
	}
}

// partsOf tells a module's body in pieces.
func partsOf(m api.Module) parts {
	var p parts
	p.number(len(m.Types), 256)
	for _, x := range m.Types {
		p.typ(x)
	}
	p.number(len(m.Texts), 32768)
	for _, s := range m.Texts {
		p.text(s, 65536)
	}
	p.number(len(m.Funcs), 256)
	for _, f := range m.Funcs {
		p.text(f.Name, 65536)
		p.list(f.Params, 32)
		p.list(f.Results, 8)
		p.number(f.Locals, 0)
		p.number(f.Stack, 0)
		p.text(string(f.Code), 65536)
	}
	return p
}

// with makes a body in which other bytes stand for the part at a place, and tells where they begin in the module's bytes.
func (p parts) with(at int, b ...byte) ([]byte, int) {
	var body []byte
	begins := 0
	for i, x := range p {
		if i == at {
			begins = 8 + len(body)
			body = append(body, b...)
		} else {
			body = append(body, x.bytes...)
		}
	}
	return body, begins
}

// Each number of a body not in its short form, above 2^31 - 1, and above its limit.
func TestP13_2Numbers(t *testing.T) {
	for _, m := range []api.Module{{}, sample(), base()} {
		p := partsOf(m)
		for i, x := range p {
			if !x.number {
				continue
			}
			lengthened := append(slices.Clone(x.bytes), 0)
			lengthened[len(lengthened)-2] |= 0x80
			for _, b := range [][]byte{lengthened, {0x80, 0}, {0xff, 0x80, 0}, slices.Concat(slices.Repeat([]byte{0xff}, 9), []byte{2}), slices.Repeat([]byte{0x80}, 10), slices.Repeat([]byte{0xff}, 200)} {
				body, at := p.with(i, b...)
				isRefused(t, "not in its short form", wrap(body), at, api.ErrForm)
			}
			for _, n := range []uint64{1 << 31, 1<<31 + 1, 1 << 32, 1<<32 + 1, 1 << 63, 1<<64 - 1} {
				body, at := p.with(i, binary.AppendUvarint(nil, n)...)
				isRefused(t, "above 2^31 - 1", wrap(body), at, api.ErrModule)
				isRefused(t, "above 2^31 - 1, with nothing behind", wrap(body[:at-8+len(binary.AppendUvarint(nil, n))]), at, api.ErrModule)
			}
			for _, n := range []int{x.limit + 1, x.limit + 2, 100000, 1<<31 - 1} {
				if x.limit > 0 {
					body, at := p.with(i, binary.AppendUvarint(nil, uint64(n))...)
					isRefused(t, "above its limit", wrap(body), at, api.ErrLimit)
				}
			}
			body, at := p.with(i, 0x80, 0x80)
			isRefused(t, "a number that ends", wrap(body[:at-8+2]), at+2, api.ErrShort)
			if x.limit > 0 { // so many there may be, but nothing stands behind
				b := binary.AppendUvarint(nil, uint64(x.limit))
				body, at := p.with(i, b...)
				isRefused(t, "at its limit", wrap(body[:at-8+len(b)]), at+len(b), api.ErrShort)
			}
		}
	}
}

// A body that is cut, its length and sum told anew; and one with more behind.
func TestP13_2BodyEnds(t *testing.T) {
	for _, b := range images() {
		body := unwrap(b)
		for i := range body {
			isRefused(t, "a body that is cut", wrap(body[:i]), 8+i, api.ErrShort)
		}
		for _, more := range [][]byte{{0}, {0xff}, body, make([]byte, 100)} {
			isRefused(t, "a body with more", wrap(slices.Concat(body, more)), 8+len(body), api.ErrModule)
		}
	}
}

// A Kind that is none: one of the five types is no Kind of a table's type.
func TestP13_2Kinds(t *testing.T) {
	for kind := range 256 {
		if kind >= 6 && kind <= 8 {
			continue
		}
		k := byte(kind)
		isRefused(t, "no Kind", wrap([]byte{1, k, 0, 0}), 9, api.ErrModule)
		isRefused(t, "no Kind, with nothing behind", wrap([]byte{1, k}), 9, api.ErrModule)
		isRefused(t, "no Kind behind others", wrap([]byte{3, 8, 1, 6, 1, 'a', 1, 0, 2, k, 1, 0, 0}), 17, api.ErrModule)
	}
	isRefused(t, "a Kind that is wanting", wrap([]byte{1}), 9, api.ErrShort)
}

// Check's error, with 0, behind a body that can be read; ahead of it what can't be read.
func TestP13_2Check(t *testing.T) {
	last := 0
	for _, x := range flaws() {
		m := base()
		x.make(&m)
		b := wrap(plainBody(m))
		isLoaded(t, b)
		if _, at, err := Load(b); at == 0 && err == api.ErrModule {
			last++
		}
	}
	if last < 10 {
		t.Errorf("%d modules were refused by Check", last)
	}
	for _, x := range []struct {
		name string
		body []byte
		at   int
		err  api.Errno
	}{
		{"a Grow of the type 0", []byte{1, 8, 0, 0, 0}, 0, api.ErrModule},
		{"a Grow of the type 2^31 - 1", []byte{1, 8, 255, 255, 255, 255, 7, 0, 0}, 0, api.ErrModule},
		{"a Grow of the type 2^31", []byte{1, 8, 128, 128, 128, 128, 8, 0, 0}, 10, api.ErrModule},
		{"a Grow of the type 17", []byte{1, 8, 17, 0, 0}, 0, api.ErrModule},
		{"a Grow of the type 17, and one byte more", []byte{1, 8, 17, 0, 0, 0}, 13, api.ErrModule},
		{"a Grow of the type 17, and no functions", []byte{1, 8, 17, 0}, 12, api.ErrShort},
		{"a Fixed of 65537", []byte{1, 7, 1, 129, 128, 4, 0, 0}, 0, api.ErrModule},
		{"a Fixed of 65536", []byte{1, 7, 1, 128, 128, 4, 0, 0}, 0, api.OK},
		{"257 locals", []byte{0, 0, 1, 0, 0, 0, 129, 2, 0, 0}, 0, api.ErrLimit},
		{"256 locals", []byte{0, 0, 1, 0, 0, 0, 128, 2, 0, 0}, 0, api.OK},
		{"257 locals, and a Grow of the type 0", []byte{1, 8, 0, 0, 1, 0, 0, 0, 129, 2, 0, 0}, 0, api.ErrModule},
		{"4097 things", []byte{0, 0, 1, 0, 0, 0, 0, 129, 32, 0}, 0, api.ErrLimit},
		{"4096 things", []byte{0, 0, 1, 0, 0, 0, 0, 128, 32, 0}, 0, api.OK},
		{"2^31 - 1 things", []byte{0, 0, 1, 0, 0, 0, 0, 255, 255, 255, 255, 7, 0}, 0, api.ErrLimit},
		{"a parameter, and no local", []byte{0, 0, 1, 0, 1, 1, 0, 0, 0, 0}, 0, api.ErrModule},
		{"half an instruction", []byte{0, 0, 1, 0, 0, 0, 0, 0, 1, 2}, 0, api.ErrModule},
		{"get 0 without locals", []byte{0, 0, 1, 0, 0, 0, 0, 0, 3, 7, 0, 0}, 0, api.ErrModule},
		{"a code that ends", []byte{0, 0, 1, 0, 0, 0, 0, 0, 3, 7, 0}, 19, api.ErrShort},
	} {
		m, at, err := Load(wrap(x.body))
		if at != x.at || err != x.err || err != api.OK && !isSame(m, api.Module{}) {
			t.Errorf("%s: %v, %d, %d, want %d, %d", x.name, m, at, err, x.at, x.err)
		}
	}
}

// Each limit of a body at its number, so that all can be read.
func TestP13_2AtTheLimits(t *testing.T) {
	for name, m := range map[string]api.Module{
		"types": {Types: grows(256)}, "texts": {Texts: make([]string, 32768)}, "functions": {Funcs: make([]api.Routine, 256)},
		"fields": {Types: []api.Type{{Kind: api.Record, Fields: fields(32)}}}, "a name": {Types: []api.Type{{Kind: api.Record, Name: long(65536)}}},
		"a field's name": {Types: []api.Type{{Kind: api.Record, Fields: []api.Field{{Name: long(65536), Type: 1}}}}},
		"a text":         {Texts: []string{long(65536)}}, "params": {Funcs: []api.Routine{{Params: ints(1, 32), Locals: 32}}},
		"results": {Funcs: []api.Routine{{Results: ints(1, 8)}}}, "a code": {Funcs: []api.Routine{{Code: trues(65536)}}},
		"a function's name": {Funcs: []api.Routine{{Name: long(65536)}}},
	} {
		got, at, err := Load(wrap(plainBody(m)))
		if at != 0 || err != api.OK || !isSame(got, m) {
			t.Errorf("%s: %d, %d", name, at, err)
		}
	}
}

// Fields to which no meaning is given have their zero values.
func TestP13_2Zeros(t *testing.T) {
	m, _, err := Load(wrap([]byte{3, 6, 0, 0, 7, 1, 2, 8, 1, 0, 0}))
	want := api.Module{Types: []api.Type{{Kind: api.Record}, {Kind: api.Fixed, Elem: 1, Len: 2}, {Kind: api.Grow, Elem: 1}}}
	if err != api.OK || !isSame(m, want) {
		t.Errorf("Load = %v, %d, want %v", m, err, want)
	}
}

// Bytes made at will: bodies of few numbers, with a length and a sum that are theirs.
func TestP13_2AnyBody(t *testing.T) {
	r := rand.New(rand.NewSource(133))
	ended := map[api.Errno]int{}
	for range 200000 {
		body := make([]byte, r.Intn(24))
		for i := range body {
			body[i] = []byte{0, 0, 0, 1, 1, 2, 4, 5, 6, 7, 8, 16, 17, 33, 127, 128, 255}[r.Intn(17)]
		}
		ended[isLoaded(t, wrap(body))]++
	}
	for _, err := range []api.Errno{api.OK, api.ErrModule, api.ErrLimit, api.ErrShort, api.ErrForm} {
		if ended[err] < 50 {
			t.Errorf("error %d came %d times", err, ended[err])
		}
	}
}

// Bodies of modules in which some bytes are others, or are wanting, or more.
func TestP13_2ChangedBody(t *testing.T) {
	r := rand.New(rand.NewSource(134))
	ended := map[api.Errno]int{}
	for range 100000 {
		body := plainBody(anyModule(r))
		for range 1 + r.Intn(2) {
			at := r.Intn(len(body) + 1)
			switch {
			case r.Intn(4) == 0:
				body = slices.Insert(body, at, byte(r.Intn(256)))
			case at == len(body) || len(body) == 1:
			case r.Intn(4) == 0:
				body = slices.Delete(body, at, at+1)
			case r.Intn(2) == 0:
				body[at] ^= 1 << r.Intn(8)
			default:
				body[at] = byte(r.Intn(32))
			}
		}
		ended[isLoaded(t, wrap(body))]++
	}
	for _, err := range []api.Errno{api.OK, api.ErrModule, api.ErrLimit, api.ErrShort, api.ErrForm} {
		if ended[err] < 50 {
			t.Errorf("error %d came %d times", err, ended[err])
		}
	}
}

// Any bytes at all, and such as begin like a module's.
func TestP13_2AnyBytes(t *testing.T) {
	r := rand.New(rand.NewSource(135))
	for range 50000 {
		b := make([]byte, r.Intn(30))
		r.Read(b)
		copy(b, "TRM\x01"[:r.Intn(5)])
		if len(b) > 8 && r.Intn(2) == 0 {
			copy(b[4:], []byte{byte(len(b) - 14 + r.Intn(4)), 0, 0, 0})
		}
		isLoaded(t, b)
	}
	isLoaded(t, nil)
}
