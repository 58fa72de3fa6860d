package ops

import (
	"math"
	"math/rand"
	"slices"
	"testing"

	"trammel/api"
)

func TestP12_2DecodeExamples(t *testing.T) {
	for _, x := range []struct {
		code string
		at   int
		x    api.Instr
		next int
		err  api.Errno
	}{
		{"0b 04", 0, api.Instr{}, 0, api.ErrOp}, {"0b", 0, api.Instr{}, 0, api.ErrShort}, {"02 01", 0, api.Instr{}, 0, api.ErrShort},
		{"35", 0, api.Instr{}, 0, api.ErrOp}, {"", 0, api.Instr{}, 0, api.ErrArg}, {"04", -1, api.Instr{}, 0, api.ErrArg},
		{"04 05", 1, api.Instr{Op: api.OpFalse}, 2, api.OK},

		{"04 05", 0, api.Instr{Op: api.OpTrue}, 1, api.OK}, {"04", 1, api.Instr{}, 0, api.ErrArg}, {"04", 2, api.Instr{}, 0, api.ErrArg},
		{"00", 0, api.Instr{}, 0, api.ErrOp}, {"ff 00", 0, api.Instr{}, 0, api.ErrOp},
		{"01 80", 0, api.Instr{Op: api.OpI8, A: -128}, 2, api.OK},
		{"00 02 ff ff ff 7f 00", 1, api.Instr{Op: api.OpI32, A: math.MaxInt32}, 6, api.OK},
		{"03 00 00 00 00 00 00 00 80", 0, api.Instr{Op: api.OpI64, A: math.MinInt64}, 9, api.OK},
		{"2e ff ff ff ff", 0, api.Instr{Op: api.OpJump, A: 1<<32 - 1}, 5, api.OK}, {"34 ff", 0, api.Instr{Op: api.OpTrap, A: 255}, 2, api.OK},
		{"25 ff ff fe ff", 0, api.Instr{Op: api.OpField, A: 65535, B: 65534}, 5, api.OK},
		{"31 01 01 00 05 00 00 00 00 00 00 00 07 00 00 00 2c 01 00 00", 0, api.Instr{Op: api.OpSwitch, A: 1, B: 300, Arms: []api.Arm{{Value: 5, To: 7}}}, 20, api.OK},
		{"31 03 00 00 ff ff ff ff 04", 0, api.Instr{Op: api.OpSwitch, A: 3, B: 1<<32 - 1}, 8, api.OK},
	} {
		got, next, err := Decode(code(t, x.code), x.at)
		if !same(got, x.x) || next != x.next || err != x.err {
			t.Errorf("Decode(%s, %d) = %s, %d, %d, want %s, %d, %d", x.code, x.at, tell(got), next, err, tell(x.x), x.next, x.err)
		}
	}
}

// What is wrong first is told, from left to right, whatever is wrong or wanting behind it.
func TestP12_2LeftToRight(t *testing.T) {
	for _, x := range []struct {
		code string
		err  api.Errno
	}{
		{"1d 04", api.ErrOp}, {"1d 00 01", api.ErrOp}, {"1d 01", api.ErrShort}, {"1d 01 04", api.ErrOp}, {"1d 04 04", api.ErrOp},
		{"17 05", api.OK}, {"17 06", api.ErrOp}, {"17 00", api.ErrOp}, {"18 06", api.ErrOp}, {"19 04", api.ErrOp}, {"19 03", api.OK},
		{"31", api.ErrShort}, {"31 00", api.ErrOp}, {"31 04", api.ErrOp}, {"31 04 ff ff", api.ErrOp}, {"31 01", api.ErrShort},
		{"31 01 00", api.ErrShort}, {"31 01 00 00", api.ErrShort}, {"31 01 00 00 01 02 03", api.ErrShort}, {"31 01 00 00 01 02 03 04", api.OK},
		{"31 01 ff ff", api.ErrShort}, {"31 01 ff ff 80 00 00 00 00 00 00", api.ErrShort},
		{"31 01 ff ff 80 00 00 00 00 00 00 00", api.ErrOp}, {"31 02 ff ff 80 00 00 00 00 00 00 00", api.ErrShort},
		{"31 02 01 00 ff ff ff ff 00 00 00 00", api.ErrOp}, {"31 03 01 00 ff ff ff ff 00 00 00 00", api.ErrShort},
		{"31 02 01 00 ff ff ff ff ff ff ff ff 00 00 00", api.ErrShort},
		{"31 01 02 00 05 00 00 00 00 00 00 00 07 00 00 00 05 01 00 00 00 00 00", api.ErrShort},
		{"31 01 02 00 05 00 00 00 00 00 00 00 07 00 00 00 05 01 00 00 00 00 00 00", api.ErrOp},
		{"31 01 01 00 05 00 00 00 00 00 00 00 07 00 00 00 2c 01 00", api.ErrShort},
	} {
		if _, _, err := Decode(code(t, x.code), 0); err != x.err {
			t.Errorf("Decode(%s) = %d, want %d", x.code, err, x.err)
		}
	}
}

func TestP12_2Places(t *testing.T) {
	list := code(t, "04 0b 04 02 01 02 03 04 1d 01 03 35 31 01 00 00 00 00 00 00")
	for at := -3; at <= len(list)+3; at++ {
		isDecoded(t, list, at)
	}
	for _, at := range []int{math.MinInt, math.MinInt32, math.MaxInt32, math.MaxInt - 1, math.MaxInt} {
		isDecoded(t, list, at)
		isDecoded(t, nil, at)
	}
	for at := -1; at <= 1; at++ {
		isDecoded(t, nil, at)
		isDecoded(t, []byte{}, at)
	}
}

// Each row of one, two and three bytes, with nothing and with enough behind it.
func TestP12_2EachBeginning(t *testing.T) {
	for a := range 256 {
		isDecoded(t, []byte{byte(a)}, 0)
		for b := range 256 {
			isDecoded(t, []byte{byte(a), byte(b)}, 0)
			isDecoded(t, append([]byte{byte(a), byte(b)}, make([]byte, 20)...), 0)
			for _, c := range []byte{0, 1, 2, 3, 4, 127, 128, 255} {
				isDecoded(t, []byte{byte(a), byte(b), c}, 0)
				isDecoded(t, slices.Concat([]byte{byte(a), byte(b), c}, slices.Repeat([]byte{c}, 40)), 0)
			}
		}
	}
}

// Bytes made at will, many of them of instructions with a byte spoilt.
func TestP12_2AnyBytes(t *testing.T) {
	m := rand.New(rand.NewSource(122))
	list := good()
	ended := map[api.Errno]int{}
	for range 200000 {
		var b []byte
		for range 1 + m.Intn(3) {
			b = append(b, plainBytes(list[m.Intn(len(list))])...)
		}
		if m.Intn(2) == 0 {
			b[m.Intn(len(b))] = byte(m.Intn(256))
		}
		b = b[:m.Intn(len(b)+1)]
		at := m.Intn(len(b)+1) * m.Intn(2)
		isDecoded(t, b, at)
		_, _, err := Decode(b, at)
		ended[err]++
	}
	for _, err := range []api.Errno{api.OK, api.ErrArg, api.ErrShort, api.ErrOp} {
		if ended[err] < 1000 {
			t.Errorf("error %d came %d times", err, ended[err])
		}
	}
}

func TestP12_2ManyArms(t *testing.T) {
	for _, n := range []int{0, 1, 2, 255, 256, 65534, 65535} {
		x := api.Instr{Op: api.OpSwitch, A: api.I8, B: 3, Arms: many(n)}
		b := append(plainBytes(x), 4)
		got, next, err := Decode(b, 0)
		if !same(got, x) || next != 8+12*n || err != api.OK {
			t.Errorf("a switch of %d arms: %s, %d, %d", n, tell(got), next, err)
		}
		for _, cut := range []int{len(b) - 2, len(b) / 2, 4, 3} {
			if _, _, err := Decode(b[:cut], 0); err != api.ErrShort {
				t.Errorf("a switch of %d arms, of which there are %d bytes: %d", n, cut, err)
			}
		}
	}
}

// isRead holds All to what the second reading of Decode tells, one behind the other.
func isRead(t *testing.T, b []byte) api.Errno {
	t.Helper()
	var want []api.Instr
	var wantPlaces []int
	wantErr := api.OK
	for at := 0; at < len(b) && wantErr == api.OK; {
		x, next, err := plainRead(b, at)
		want, wantPlaces, wantErr = append(want, x), append(wantPlaces, at), err
		at = next
	}
	if wantErr != api.OK {
		want, wantPlaces = nil, nil
	}
	got, places, err := All(b)
	if !slices.EqualFunc(got, want, same) || !slices.Equal(places, wantPlaces) || err != wantErr {
		t.Fatalf("All(% x) = %d at %v, %d, want %d at %v, %d", b[:min(len(b), 60)], len(got), places, err, len(want), wantPlaces, wantErr)
	}
	return err
}

func TestP12_2All(t *testing.T) {
	for _, x := range []struct {
		code   string
		places []int
		err    api.Errno
	}{
		{"", nil, api.OK}, {"04", []int{0}, api.OK}, {"04 05 33", []int{0, 1, 2}, api.OK},
		{"02 01 02 03 04 1d 01 03 04", []int{0, 5, 8}, api.OK},
		{"35 04 04", nil, api.ErrOp}, {"04 35 04", nil, api.ErrOp}, {"04 04 35", nil, api.ErrOp},
		{"0b 04 04", nil, api.ErrOp}, {"04 0b 05 0b", nil, api.ErrOp}, {"04 0b 04", nil, api.ErrOp}, {"04 04 0b", nil, api.ErrShort},
		{"04 02 04 04", nil, api.ErrShort}, {"02 04", nil, api.ErrShort}, {"0b 04 02 04", nil, api.ErrOp}, {"00", nil, api.ErrOp},
		{"31 01 00 00 04 04 04 04 05", []int{0, 8}, api.OK}, {"31 01 01 00 04 04 04 04 05", nil, api.ErrShort},
	} {
		got, places, err := All(code(t, x.code))
		if len(got) != len(x.places) || !slices.Equal(places, x.places) || err != x.err {
			t.Errorf("All(%s) = %v at %v, %d, want %v, %d", x.code, got, places, err, x.places, x.err)
		}
		isRead(t, code(t, x.code))
	}
	isRead(t, nil)
}

func TestP12_2AllOfAnyBytes(t *testing.T) {
	m := rand.New(rand.NewSource(123))
	list := good()
	ended := map[api.Errno]int{}
	for range 20000 {
		var b []byte
		for range m.Intn(12) {
			b = append(b, plainBytes(list[m.Intn(len(list))])...)
		}
		switch m.Intn(4) {
		case 0:
			b = b[:m.Intn(len(b)+1)]
		case 1:
			b = append(b, byte(m.Intn(256)))
			b[m.Intn(len(b))] = byte(m.Intn(256))
		}
		ended[isRead(t, b)]++
	}
	for _, err := range []api.Errno{api.OK, api.ErrShort, api.ErrOp} {
		if ended[err] < 1000 {
			t.Errorf("error %d came %d times", err, ended[err])
		}
	}
}
