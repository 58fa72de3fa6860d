package image

import (
	"encoding/binary"
	"hash/crc32"
	"math/rand"
	"slices"
	"strings"
	"testing"

	"trammel/api"
	"trammel/ops"
	"trammel/wire"
)

// A second reading of the chapter: bytes by the library's own short numbers and sum, Check as a row of all that is wrong, Load as
// a cursor that keeps its first error.

func plainText(b []byte, s string) []byte {
	return append(binary.AppendUvarint(b, uint64(len(s))), s...)
}

func plainList(b []byte, list []int) []byte {
	b = binary.AppendUvarint(b, uint64(len(list)))
	for _, n := range list {
		b = binary.AppendUvarint(b, uint64(n))
	}
	return b
}

func plainType(b []byte, x api.Type) []byte {
	b = append(b, x.Kind)
	if x.Kind == 7 || x.Kind == 8 {
		b = binary.AppendUvarint(b, uint64(x.Elem))
	}
	if x.Kind == 7 {
		b = binary.AppendUvarint(b, uint64(x.Len))
	}
	if x.Kind == 6 {
		b = binary.AppendUvarint(plainText(b, x.Name), uint64(len(x.Fields)))
		for _, f := range x.Fields {
			b = binary.AppendUvarint(plainText(b, f.Name), uint64(f.Type))
		}
	}
	return b
}

func plainBody(m api.Module) []byte {
	b := binary.AppendUvarint(nil, uint64(len(m.Types)))
	for _, x := range m.Types {
		b = plainType(b, x)
	}
	b = binary.AppendUvarint(b, uint64(len(m.Texts)))
	for _, s := range m.Texts {
		b = plainText(b, s)
	}
	b = binary.AppendUvarint(b, uint64(len(m.Funcs)))
	for _, f := range m.Funcs {
		b = plainList(plainList(plainText(b, f.Name), f.Params), f.Results)
		b = binary.AppendUvarint(binary.AppendUvarint(b, uint64(f.Locals)), uint64(f.Stack))
		b = plainText(b, string(f.Code))
	}
	return b
}

// wrap makes a module's bytes of any body.
func wrap(body []byte) []byte {
	b := binary.LittleEndian.AppendUint32([]byte{84, 82, 77, 1}, uint32(len(body)))
	return binary.LittleEndian.AppendUint32(append(b, body...), crc32.ChecksumIEEE(body))
}

// unwrap tells the body of a module's bytes.
func unwrap(b []byte) []byte { return slices.Clone(b[8 : len(b)-4]) }

// wrongs is all that is wrong with a module, in Check's order.
type wrongs []api.Errno

func (w *wrongs) when(wrong bool, err api.Errno) {
	if wrong {
		*w = append(*w, err)
	}
}

func plainThere(typ int, m api.Module) bool {
	return slices.Contains([]int{1, 2, 3, 4, 5}, typ) || typ >= 16 && typ <= 16+len(m.Types)-1
}

func (w *wrongs) ofType(x api.Type, m api.Module) {
	w.when(len(x.Fields) > 32, api.ErrLimit)
	w.when(len(x.Name) > 65536, api.ErrLimit)
	for _, f := range x.Fields {
		w.when(len(f.Name) > 65536, api.ErrLimit)
	}
	switch x.Kind {
	case 6:
		w.when(x.Elem != 0 || x.Len != 0, api.ErrModule)
		for _, f := range x.Fields {
			w.when(!plainThere(f.Type, m), api.ErrModule)
		}
		return
	case 7:
		w.when(x.Len < 0 || x.Len > 65536, api.ErrModule)
	case 8:
		w.when(x.Len != 0, api.ErrModule)
	default:
		w.when(true, api.ErrModule)
	}
	w.when(x.Name != "" || len(x.Fields) > 0 || !plainThere(x.Elem, m), api.ErrModule)
}

func (w *wrongs) ofFunc(f api.Routine, m api.Module) {
	w.when(len(f.Params) > 32 || len(f.Results) > 8, api.ErrLimit)
	w.when(f.Locals > 256 || f.Stack > 4096, api.ErrLimit)
	w.when(len(f.Code) > 65536 || len(f.Name) > 65536, api.ErrLimit)
	for _, typ := range slices.Concat(f.Params, f.Results) {
		w.when(!plainThere(typ, m), api.ErrModule)
	}
	w.when(f.Locals < len(f.Params) || f.Stack < 0, api.ErrModule)
	for at := 0; at < len(f.Code); {
		x, next, err := ops.Decode(f.Code, at)
		if err != api.OK {
			w.when(true, api.ErrModule)
			return
		}
		_, _, err = ops.Takes(x, m)
		local := x.Op == api.OpGet || x.Op == api.OpPut
		w.when(err != api.OK || local && int(x.A) >= f.Locals, api.ErrModule)
		at = next
	}
}

func plainCheck(m api.Module) api.Errno {
	var w wrongs
	w.when(len(m.Types) > 256 || len(m.Texts) > 32768 || len(m.Funcs) > 256, api.ErrLimit)
	for _, x := range m.Types {
		w.ofType(x, m)
	}
	for _, s := range m.Texts {
		w.when(len(s) > 65536, api.ErrLimit)
	}
	for _, f := range m.Funcs {
		w.ofFunc(f, m)
	}
	if len(w) == 0 {
		w.when(len(wrap(plainBody(m))) > 2097152, api.ErrLimit)
	}
	return append(w, api.OK)[0]
}

// cursor goes through a body; behind its first error it stays where it is, and tells noughts.
type cursor struct {
	b   []byte
	at  int
	bad int
	err api.Errno
}

func (c *cursor) stop(at int, err api.Errno) {
	if c.err == api.OK {
		c.bad, c.err = at, err
	}
}

func (c *cursor) number(limit uint64, beyond api.Errno) int {
	if c.err != api.OK {
		return 0
	}
	n, next, err := wire.Get(c.b, c.at)
	if err == api.ErrShort {
		c.stop(len(c.b), err)
	}
	c.stop(c.at, err)
	if n >= 1<<31 {
		c.stop(c.at, api.ErrModule)
	}
	if n > limit {
		c.stop(c.at, beyond)
	}
	if c.err != api.OK {
		return 0
	}
	c.at = next
	return int(n)
}

func (c *cursor) any() int { return c.number(1<<31-1, api.ErrModule) }

func (c *cursor) text() string {
	n := c.number(65536, api.ErrLimit) // of a Code, too: the two limits are one number
	if c.err == api.OK && c.at+n > len(c.b) {
		c.stop(len(c.b), api.ErrShort)
	}
	if c.err != api.OK {
		return ""
	}
	c.at += n
	return string(c.b[c.at-n : c.at])
}

func (c *cursor) list(limit uint64) []int {
	var list []int
	for n := c.number(limit, api.ErrLimit); n > 0 && c.err == api.OK; n-- {
		list = append(list, c.any())
	}
	return list
}

func (c *cursor) typ() api.Type {
	var x api.Type
	if c.err == api.OK && c.at == len(c.b) {
		c.stop(c.at, api.ErrShort)
	}
	if c.err != api.OK {
		return x
	}
	x.Kind = c.b[c.at]
	if x.Kind < 6 || x.Kind > 8 {
		c.stop(c.at, api.ErrModule)
	}
	c.at++
	if x.Kind == 6 {
		x.Name = c.text()
		for n := c.number(32, api.ErrLimit); n > 0 && c.err == api.OK; n-- {
			name := c.text()
			x.Fields = append(x.Fields, api.Field{Name: name, Type: c.any()})
		}
		return x
	}
	x.Elem = c.any()
	if x.Kind == 7 {
		x.Len = c.any()
	}
	return x
}

func (c *cursor) module() api.Module {
	var m api.Module
	for n := c.number(256, api.ErrLimit); n > 0 && c.err == api.OK; n-- {
		m.Types = append(m.Types, c.typ())
	}
	for n := c.number(32768, api.ErrLimit); n > 0 && c.err == api.OK; n-- {
		m.Texts = append(m.Texts, c.text())
	}
	for n := c.number(256, api.ErrLimit); n > 0 && c.err == api.OK; n-- {
		f := api.Routine{Name: c.text()}
		f.Params = c.list(32)
		f.Results = c.list(8)
		f.Locals = c.any()
		f.Stack = c.any()
		f.Code = []byte(c.text())
		m.Funcs = append(m.Funcs, f)
	}
	if c.at < len(c.b) {
		c.stop(c.at, api.ErrModule)
	}
	return m
}

func plainLoad(b []byte) (api.Module, int, api.Errno) {
	if len(b) > 2097152 {
		return api.Module{}, 0, api.ErrLimit
	}
	for i := range min(4, len(b)) {
		if b[i] != "TRM\x01"[i] {
			return api.Module{}, i, api.ErrModule
		}
	}
	if len(b) < 8 || len(b) < 12+int(binary.LittleEndian.Uint32(b[4:])) {
		return api.Module{}, len(b), api.ErrShort
	}
	end := 8 + int(binary.LittleEndian.Uint32(b[4:]))
	if len(b) > end+4 {
		return api.Module{}, end + 4, api.ErrModule
	}
	if binary.LittleEndian.Uint32(b[end:]) != crc32.ChecksumIEEE(b[8:end]) {
		return api.Module{}, end, api.ErrModule
	}
	c := cursor{b: b[:end], at: 8}
	m := c.module()
	c.stop(0, plainCheck(m))
	if c.err != api.OK {
		return api.Module{}, c.bad, c.err
	}
	return m, 0, api.OK
}

// isLoaded holds Load to the second reading, and tells its error.
func isLoaded(t *testing.T, b []byte) api.Errno {
	t.Helper()
	m, at, err := Load(b)
	wantModule, wantAt, want := plainLoad(b)
	if err != want || at != wantAt || !isSame(m, wantModule) {
		t.Fatalf("Load(% x) = %v, %d, %d, want %v, %d, %d", b[:min(len(b), 200)], m, at, err, wantModule, wantAt, want)
	}
	return err
}

// isChecked holds Check and Encode to the second reading, and tells their error.
func isChecked(t *testing.T, m api.Module) api.Errno {
	t.Helper()
	want := plainCheck(m)
	if err := Check(m); err != want {
		t.Fatalf("Check(%.300v) = %d, want %d", m, err, want)
	}
	b, err := Encode(m)
	if err != want || err != api.OK && len(b) > 0 {
		t.Fatalf("Encode(%.300v) = % x, %d, want %d", m, b[:min(len(b), 200)], err, want)
	}
	if err == api.OK && string(b) != string(wrap(plainBody(m))) {
		t.Fatalf("Encode(%.300v) = % x, want % x", m, b[:min(len(b), 200)], wrap(plainBody(m)))
	}
	return err
}

// Modules made at will.

func anyName(r *rand.Rand) string {
	b := make([]byte, r.Intn(4))
	r.Read(b)
	if r.Intn(50) == 0 {
		return strings.Repeat("n", 126+r.Intn(4)) // where a length gets its second byte
	}
	return string(b)
}

func anyTypes(r *rand.Rand, types, most int) []int {
	var list []int
	for range r.Intn(most + 1) {
		list = append(list, anyTypeNumber(r, types))
	}
	return list
}

func anyTypeNumber(r *rand.Rand, types int) int {
	if types == 0 || r.Intn(2) == 0 {
		return 1 + r.Intn(5)
	}
	return 16 + r.Intn(types)
}

func anyType(r *rand.Rand, types int) api.Type {
	switch r.Intn(3) {
	case 0:
		x := api.Type{Kind: api.Record, Name: anyName(r)}
		for _, typ := range anyTypes(r, types, 4) {
			x.Fields = append(x.Fields, api.Field{Name: anyName(r), Type: typ})
		}
		return x
	case 1:
		return api.Type{Kind: api.Fixed, Elem: anyTypeNumber(r, types), Len: []int{0, 1, 127, 128, 16384, 65536}[r.Intn(6)]}
	}
	return api.Type{Kind: api.Grow, Elem: anyTypeNumber(r, types)}
}

// anyCode draws instructions, and keeps those that may stand in the function.
func anyCode(r *rand.Rand, locals int, m api.Module) []byte {
	var b []byte
	for range r.Intn(12) {
		x := api.Instr{Op: uint8(1 + r.Intn(52)), A: int64(r.Intn(24)), B: int64(r.Intn(3))}
		if r.Intn(2) == 0 {
			x.B = 0
		}
		if x.Op == api.OpSwitch {
			x.A, x.Arms = 3, []api.Arm{{Value: int64(r.Uint64()), To: r.Intn(9)}}
		}
		_, _, err := ops.Takes(x, m)
		if err != api.OK || (x.Op == api.OpGet || x.Op == api.OpPut) && x.A >= int64(locals) {
			continue
		}
		c, _ := ops.Encode(x)
		b = append(b, c...)
	}
	return b
}

func anyModule(r *rand.Rand) api.Module {
	var m api.Module
	types := r.Intn(6)
	for range types {
		m.Types = append(m.Types, anyType(r, types))
	}
	for range r.Intn(5) {
		m.Texts = append(m.Texts, anyName(r))
	}
	for range r.Intn(5) {
		f := api.Routine{Name: anyName(r), Params: anyTypes(r, types, 4), Results: anyTypes(r, types, 3), Stack: r.Intn(4097)}
		f.Locals = len(f.Params) + r.Intn(200)
		m.Funcs = append(m.Funcs, f)
	}
	for i := range m.Funcs {
		m.Funcs[i].Code = anyCode(r, m.Funcs[i].Locals, m)
	}
	return m
}
