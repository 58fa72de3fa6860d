package linear

import (
	"encoding/binary"
	"slices"
	"testing"

	"trammel/api"
)

func jumpTo(op byte, place uint32) []byte {
	return append([]byte{op}, binary.LittleEndian.AppendUint32(nil, place)...)
}

func TestP15_6Lines(t *testing.T) {
	yes := do(api.OpTrue)
	for _, x := range []struct {
		code []byte
		want []api.Line
		err  api.Errno
	}{
		{nil, nil, api.OK}, {[]byte{}, nil, api.OK}, {[]byte{4}, row(yes), api.OK}, {[]byte{4, 0x1d, 1, 3, 4}, row(yes, do(api.OpConv, 1, 3), yes), api.OK},
		{jumpTo(0x2e, 0), row(at(0), do(api.OpJump, 0)), api.OK}, {jumpTo(0x2f, 5), row(do(api.OpUnless, 0), at(0)), api.OK},
		{jumpTo(0x30, 1), nil, api.ErrJump}, {jumpTo(0x2e, 4), nil, api.ErrJump}, {jumpTo(0x2f, 6), nil, api.ErrJump}, {jumpTo(0x30, 1<<31), nil, api.ErrJump},
		{jumpTo(0x2e, 1<<32-1), nil, api.ErrJump}, {jumpTo(0x2e, 1<<32-5), nil, api.ErrJump},
		{append(jumpTo(0x2e, 5), 4), row(do(api.OpJump, 0), at(0), yes), api.OK}, {append(jumpTo(0x2e, 6), 4), row(do(api.OpJump, 0), yes, at(0)), api.OK},
		{append(jumpTo(0x2e, 7), 4), nil, api.ErrJump}, {append(jumpTo(0x30, 6), 1, 4), nil, api.ErrJump}, {append(jumpTo(0x30, 7), 1, 4), row(do(api.OpWhen, 0), do(api.OpI8, 4), at(0)), api.OK},
		{slices.Concat([]byte{4}, jumpTo(0x2e, 0)), row(at(0), yes, do(api.OpJump, 0)), api.OK}, {slices.Concat([]byte{4}, jumpTo(0x2e, 1)), row(yes, at(0), do(api.OpJump, 0)), api.OK},
		{slices.Concat([]byte{4}, jumpTo(0x2e, 2)), nil, api.ErrJump},
		{plainBytes(choose(1, 8).X), row(choose(1, 0), at(0)), api.OK}, {plainBytes(choose(1, 0).X), row(at(0), choose(1, 0)), api.OK}, {plainBytes(choose(1, 4).X), nil, api.ErrJump},
		{append(plainBytes(choose(1, 33, 5, 32, 6, 0).X), 4), row(at(0), choose(1, 2, 5, 1, 6, 0), at(1), yes, at(2)), api.OK},
		{append(plainBytes(choose(1, 33, 5, 31, 6, 0).X), 4), nil, api.ErrJump}, {append(plainBytes(choose(1, 33, 5, 32, 6, 34).X), 4), nil, api.ErrJump},
		{append(plainBytes(choose(1, 34, 5, 32, 6, 0).X), 4), nil, api.ErrJump},

		{[]byte{0}, nil, api.ErrOp}, {[]byte{53}, nil, api.ErrOp}, {[]byte{0x2e, 1, 0}, nil, api.ErrShort}, {[]byte{0x2e}, nil, api.ErrShort}, {[]byte{4, 0x0b, 4}, nil, api.ErrOp},
		{append(jumpTo(0x2e, 1), 0), nil, api.ErrOp}, {append(jumpTo(0x2e, 1), 1), nil, api.ErrShort}, {append([]byte{0}, jumpTo(0x2e, 1)...), nil, api.ErrOp},
	} {
		isLined(t, x.code)
		if got, err := Lines(x.code); err != x.err || !plainSame(got, x.want) {
			t.Errorf("Lines(% x) = %v, %d, want %v, %d", x.code, got, err, x.want, x.err)
		}
	}
}

func TestP15_6Limit(t *testing.T) {
	trues := slices.Repeat([]byte{4}, 65537)
	for _, x := range []struct {
		name string
		code []byte
		n    int
		err  api.Errno
	}{
		{"65536 bytes", trues[:65536], 65536, api.OK}, {"65537 bytes", trues, 0, api.ErrLimit}, {"65537 noughts", make([]byte, 65537), 0, api.ErrLimit},
		{"65536 noughts", make([]byte, 65536), 0, api.ErrOp}, {"many bytes", make([]byte, 1<<24), 0, api.ErrLimit},
		{"what is short, too", append(slices.Clone(trues[:65536]), 0x2e), 0, api.ErrLimit}, {"what is short", append(slices.Clone(trues[:65535]), 0x2e), 0, api.ErrShort},
		{"a jump beyond, and too many", slices.Concat(jumpTo(0x2e, 1), trues), 0, api.ErrLimit}, {"a jump to the end", slices.Concat(jumpTo(0x2e, 65536), trues[:65531]), 65533, api.OK},
		{"a jump beyond", slices.Concat(jumpTo(0x2e, 65537), trues[:65531]), 0, api.ErrJump},
	} {
		if got, err := Lines(x.code); err != x.err || len(got) != x.n {
			t.Errorf("Lines of %s: %d, %d, want %d, %d", x.name, len(got), err, x.n, x.err)
		}
	}
}

// All codes of a few bytes, ahead of and behind instructions that may be.
func TestP15_6EachBeginning(t *testing.T) {
	for a := range 256 {
		isLined(t, []byte{byte(a)})
		for b := range 256 {
			isLined(t, []byte{byte(a), byte(b)})
			isLined(t, append([]byte{byte(a), byte(b), 0}, make([]byte, 9)...))
		}
	}
	for op := byte(0x2e); op <= 0x30; op++ {
		for place := range uint32(40) {
			isLined(t, slices.Concat(jumpTo(op, place), []byte{4, 1, 7, 2, 1, 0, 0, 0, 0x1d, 1, 3}, plainBytes(choose(2, 0).X), []byte{51}))
			isLined(t, slices.Concat([]byte{4, 1, 7, 2, 1, 0, 0, 0, 0x1d, 1, 3}, plainBytes(choose(2, 31).X), jumpTo(op, place), []byte{51}))
			isLined(t, slices.Concat([]byte{1, 9}, plainBytes(choose(2, 38, 4, int64(place), 5, 2).X), []byte{4, 5, 51}))
			isLined(t, slices.Concat([]byte{1, 9}, plainBytes(choose(2, int64(place), 4, 37, 5, 35).X), []byte{4, 5, 51}))
		}
	}
}

// Codes made at will: of lines, with a byte spoilt, one more, or an end that is cut.
func TestP15_6AtWill(t *testing.T) {
	m := madeBy(156)
	ended := map[api.Errno]int{}
	for range 60000 {
		code, err := Code(m.lines())
		if err != api.OK {
			t.Fatal(err)
		}
		if len(code) > 0 {
			switch k := m.Intn(len(code)); m.Intn(6) {
			case 0:
				code[k] = byte(m.Intn(256))
			case 1:
				code[k] += byte(m.Intn(5))
			case 2:
				code = code[:k]
			case 3:
				code = slices.Insert(code, k, byte(m.Intn(56)))
			case 4:
				code = slices.Delete(code, k, k+1)
			}
		}
		ended[isLined(t, code)]++
	}
	for _, err := range []api.Errno{api.OK, api.ErrOp, api.ErrShort, api.ErrJump} {
		if ended[err] < 1000 {
			t.Errorf("error %d came %d times", err, ended[err])
		}
	}
}
