package ops

import (
	"bytes"
	"encoding/binary"
	"fmt"
	"math"
	"slices"
	"strings"
	"testing"

	"trammel/api"
)

// row is what the chapter and api.go say of an Op, in words: what stands behind its byte, what it takes, what it puts.
//
// Behind it: n8, n32, n64 a number of that width; 2 two bytes; w a width, t a type of 1 to 5, J four bytes, b a byte, arms the arms.
// Taken and put: a type by its name; any; w the type A, v the type B; T the type A of the table, X its field B, E its elements'
// type; fields, params, results the lists of such.
type row struct {
	name, behind, takes, puts string
}

// rows are those of the Ops 1 to 52, in their order.
var rows = []row{
	{"i8", "n8", "", "i8"},
	{"i32", "n32", "", "i32"},
	{"i64", "n64", "", "i64"},
	{"true", "", "", "bool"},
	{"false", "", "", "bool"},
	{"text", "2", "", "text"},
	{"get", "2", "", "any"},
	{"put", "2", "any", ""},
	{"pop", "", "any", ""},
	{"dup", "", "any", "any any"},
	{"add", "w", "w w", "w"},
	{"sub", "w", "w w", "w"},
	{"mul", "w", "w w", "w"},
	{"div", "w", "w w", "w"},
	{"rem", "w", "w w", "w"},
	{"and", "w", "w w", "w"},
	{"or", "w", "w w", "w"},
	{"xor", "w", "w w", "w"},
	{"shl", "w", "w w", "w"},
	{"shr", "w", "w w", "w"},
	{"neg", "w", "w", "w"},
	{"not", "w", "w", "w"},
	{"eq", "t", "w w", "bool"},
	{"ne", "t", "w w", "bool"},
	{"lt", "w", "w w", "bool"},
	{"le", "w", "w w", "bool"},
	{"gt", "w", "w w", "bool"},
	{"ge", "w", "w w", "bool"},
	{"conv", "w w", "w", "v"},
	{"flip", "", "bool", "bool"},
	{"cat", "", "text text", "text"},
	{"size", "", "text", "i64"},
	{"charat", "", "text i64", "i32"},
	{"cut", "", "text i64 i64", "text"},
	{"byte", "", "i32", "text"},
	{"new", "2", "fields", "T"},
	{"field", "2 2", "T", "X"},
	{"setfield", "2 2", "T X", ""},
	{"fill", "2", "E", "T"},
	{"empty", "2", "", "T"},
	{"at", "2", "T i64", "E"},
	{"setat", "2", "T i64 E", ""},
	{"len", "2", "T", "i64"},
	{"push", "2", "T E", ""},
	{"drop", "2", "T", "E"},
	{"jump", "J", "", ""},
	{"unless", "J", "bool", ""},
	{"when", "J", "bool", ""},
	{"switch", "w arms J", "w", ""},
	{"call", "2", "params", "results"},
	{"return", "", "", ""},
	{"trap", "b", "", ""},
}

// rowOf tells the row of an Op; false, if there is none.
func rowOf(op uint8) (row, bool) {
	if op < 1 || int(op) > len(rows) {
		return row{}, false
	}
	return rows[op-1], true
}

// span tells, of a word of a row's behind, how many bytes it has, and the least and the greatest number that it may be.
func span(word string) (int, int64, int64) {
	switch word {
	case "n8":
		return 1, -128, 127
	case "n32":
		return 4, math.MinInt32, math.MaxInt32
	case "n64":
		return 8, math.MinInt64, math.MaxInt64
	case "2":
		return 2, 0, 65535
	case "w":
		return 1, 1, 3
	case "t":
		return 1, 1, 5
	case "J":
		return 4, 0, 4294967295
	case "b":
		return 1, 0, 255
	}
	panic(word)
}

// wordOf tells the word of the numbers that a width has.
func wordOf(width int64) string { return []string{"n8", "n32", "n64"}[width-1] }

// within: is n one that the word may be?
func within(word string, n int64) bool {
	_, least, most := span(word)
	return least <= n && n <= most
}

// fixed tells a number's lowest bytes.
func fixed(n int64, size int) []byte { return binary.LittleEndian.AppendUint64(nil, uint64(n))[:size] }

// plainBytes is the second reading of Encode; nothing, if x is none.
func plainBytes(x api.Instr) []byte {
	r, ok := rowOf(x.Op)
	if !ok {
		return nil
	}
	out := []byte{x.Op}
	rest := []int64{x.A, x.B}
	arms := x.Arms
	for _, word := range strings.Fields(r.behind) {
		if word == "arms" {
			more, ok := plainArms(x)
			if !ok {
				return nil
			}
			out, arms = append(out, more...), nil
			continue
		}
		if !within(word, rest[0]) {
			return nil
		}
		size, _, _ := span(word)
		out, rest = append(out, fixed(rest[0], size)...), rest[1:]
	}
	if len(arms) > 0 || slices.ContainsFunc(rest, func(n int64) bool { return n != 0 }) {
		return nil
	}
	return out
}

func plainArms(x api.Instr) ([]byte, bool) {
	if len(x.Arms) > 65535 {
		return nil, false
	}
	out := fixed(int64(len(x.Arms)), 2)
	for _, a := range x.Arms {
		if !within(wordOf(x.A), a.Value) || !within("J", int64(a.To)) {
			return nil, false
		}
		out = append(append(out, fixed(a.Value, 8)...), fixed(int64(a.To), 4)...)
	}
	return out, true
}

// taken are bytes of which numbers are taken from the left.
type taken []byte

// take takes a number off, of a word that may be, in so many bytes.
func (b *taken) take(size int, word string) (int64, api.Errno) {
	if len(*b) < size {
		return 0, api.ErrShort
	}
	var n int64
	switch row := (*b)[:size]; {
	case size == 1 && word == "n8":
		n = int64(int8(row[0]))
	case size == 1:
		n = int64(row[0])
	case size == 2:
		n = int64(binary.LittleEndian.Uint16(row))
	case size == 4 && word == "n32":
		n = int64(int32(binary.LittleEndian.Uint32(row)))
	case size == 4:
		n = int64(binary.LittleEndian.Uint32(row))
	default:
		n = int64(binary.LittleEndian.Uint64(row))
	}
	*b = (*b)[size:]
	if !within(word, n) {
		return 0, api.ErrOp
	}
	return n, api.OK
}

// plainRead is the second reading of Decode.
func plainRead(code []byte, at int) (api.Instr, int, api.Errno) {
	if at < 0 || at >= len(code) {
		return api.Instr{}, 0, api.ErrArg
	}
	r, ok := rowOf(code[at])
	if !ok {
		return api.Instr{}, 0, api.ErrOp
	}
	x := api.Instr{Op: code[at]}
	b := taken(code[at+1:])
	var list []int64
	for _, word := range strings.Fields(r.behind) {
		if word == "arms" {
			arms, err := b.arms(wordOf(list[0]))
			if err != api.OK {
				return api.Instr{}, 0, err
			}
			x.Arms = arms
			continue
		}
		size, _, _ := span(word)
		n, err := b.take(size, word)
		if err != api.OK {
			return api.Instr{}, 0, err
		}
		list = append(list, n)
	}
	list = append(list, 0, 0)
	x.A, x.B = list[0], list[1]
	return x, len(code) - len(b), api.OK
}

func (b *taken) arms(word string) ([]api.Arm, api.Errno) {
	n, err := b.take(2, "2")
	var list []api.Arm
	for ; n > 0 && err == api.OK; n-- {
		var value, to int64
		if value, err = b.take(8, word); err == api.OK {
			to, err = b.take(4, "J")
		}
		list = append(list, api.Arm{Value: value, To: int(to)})
	}
	return list, err
}

// plainTakes is the second reading of Takes.
func plainTakes(x api.Instr, m api.Module) (takes, puts []int, err api.Errno) {
	if plainBytes(x) == nil {
		return nil, nil, api.ErrOp
	}
	r, _ := rowOf(x.Op)
	if !named(r.name, x, m) {
		return nil, nil, api.ErrArg
	}
	for _, word := range strings.Fields(r.takes) {
		takes = append(takes, typesOf(word, x, m)...)
	}
	for _, word := range strings.Fields(r.puts) {
		puts = append(puts, typesOf(word, x, m)...)
	}
	return takes, puts, api.OK
}

// named: has the module what an instruction names?
func named(name string, x api.Instr, m api.Module) bool {
	kinds := map[string][]uint8{
		"new": {api.Record}, "field": {api.Record}, "setfield": {api.Record}, "fill": {api.Fixed},
		"empty": {api.Grow}, "push": {api.Grow}, "drop": {api.Grow},
		"at": {api.Fixed, api.Grow}, "setat": {api.Fixed, api.Grow}, "len": {api.Fixed, api.Grow},
	}[name]
	switch {
	case name == "text":
		return int(x.A) < len(m.Texts)
	case name == "call":
		return int(x.A) < len(m.Funcs)
	case kinds == nil:
		return true
	}
	for i, t := range m.Types {
		if int(x.A) == 16+i && slices.Contains(kinds, t.Kind) {
			return name != "field" && name != "setfield" || int(x.B) < len(t.Fields)
		}
	}
	return false
}

// typesOf tells the types of a word of a row's takes or puts.
func typesOf(word string, x api.Instr, m api.Module) []int {
	switch word {
	case "w", "T":
		return []int{int(x.A)}
	case "v":
		return []int{int(x.B)}
	case "X":
		return []int{m.Types[x.A-16].Fields[x.B].Type}
	case "E":
		return []int{m.Types[x.A-16].Elem}
	case "fields":
		var list []int
		for _, f := range m.Types[x.A-16].Fields {
			list = append(list, f.Type)
		}
		return list
	case "params":
		return m.Funcs[x.A].Params
	case "results":
		return m.Funcs[x.A].Results
	}
	return []int{slices.Index([]string{"any", "i8", "i32", "i64", "bool", "text"}, word)}
}

// tell writes an instruction, a switch's arms cut short.
func tell(x api.Instr) string {
	arms := x.Arms
	if len(arms) > 3 {
		arms = arms[:3]
	}
	return fmt.Sprintf("{%d %d %d %v of %d}", x.Op, x.A, x.B, arms, len(x.Arms))
}

// same: are these one instruction? (A list of nothing is nil, or empty.)
func same(a, b api.Instr) bool {
	return a.Op == b.Op && a.A == b.A && a.B == b.B && slices.Equal(a.Arms, b.Arms)
}

// isEncoded holds Size and Encode of an instruction to the second reading.
func isEncoded(t *testing.T, x api.Instr) {
	t.Helper()
	want, wantErr := plainBytes(x), api.OK
	if want == nil {
		wantErr = api.ErrOp
	}
	got, err := Encode(x)
	if !bytes.Equal(got, want) || err != wantErr {
		t.Fatalf("Encode(%s) = % x, %d, want % x, %d", tell(x), got, err, want, wantErr)
	}
	if n := Size(x); n != len(want) {
		t.Fatalf("Size(%s) = %d, want %d", tell(x), n, len(want))
	}
}

// isDecoded holds Decode at a place to the second reading.
func isDecoded(t *testing.T, code []byte, at int) {
	t.Helper()
	want, wantNext, wantErr := plainRead(code, at)
	x, next, err := Decode(code, at)
	if !same(x, want) || next != wantNext || err != wantErr {
		t.Fatalf("Decode(% x, %d) = %s, %d, %d, want %s, %d, %d", code[:min(len(code), 40)], at, tell(x), next, err, tell(want), wantNext, wantErr)
	}
}

// isTaken holds Takes to the second reading, and tells its error.
func isTaken(t *testing.T, x api.Instr, m api.Module) api.Errno {
	t.Helper()
	takes, puts, wantErr := plainTakes(x, m)
	gotTakes, gotPuts, err := Takes(x, m)
	if !slices.Equal(gotTakes, takes) || !slices.Equal(gotPuts, puts) || err != wantErr {
		t.Fatalf("Takes(%s) = %v, %v, %d, want %v, %v, %d", tell(x), gotTakes, gotPuts, err, takes, puts, wantErr)
	}
	return err
}
