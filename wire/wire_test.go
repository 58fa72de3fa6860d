package wire

import (
	"bytes"
	"encoding/binary"
	"encoding/hex"
	"hash/crc32"
	"math"
	"slices"
	"strings"
	"testing"

	"trammel/api"
)

// row reads bytes as the document writes them: hex digits with spaces between.
func row(t *testing.T, s string) []byte {
	t.Helper()
	b, err := hex.DecodeString(strings.ReplaceAll(s, " ", ""))
	if err != nil {
		t.Fatal(err)
	}
	return b
}

// numbers tells the numbers around each power of two and each count of ones, and 0, rising.
func numbers() []uint64 {
	out := []uint64{0, 300, 0x0123456789abcdef}
	for i := range 64 {
		p := uint64(1) << i
		out = append(out, p-1, p, p+1, ^p, -p)
	}
	slices.Sort(out)
	return slices.Compact(out)
}

func TestP1_1PutExamples(t *testing.T) {
	for _, x := range []struct {
		n    uint64
		want string
	}{
		{0, "00"}, {1, "01"}, {127, "7f"}, {128, "80 01"}, {300, "ac 02"}, {16383, "ff 7f"}, {16384, "80 80 01"},
		{1<<63 - 1, "ff ff ff ff ff ff ff ff 7f"}, {1 << 63, "80 80 80 80 80 80 80 80 80 01"},
		{math.MaxUint64, "ff ff ff ff ff ff ff ff ff 01"},
	} {
		if got := Put(x.n); !bytes.Equal(got, row(t, x.want)) {
			t.Errorf("Put(%d) = % x, want %s", x.n, got, x.want)
		}
	}
}

func TestP1_1PutIntExamples(t *testing.T) {
	for _, x := range []struct {
		n    int64
		want string
	}{
		{0, "00"}, {-1, "01"}, {1, "02"}, {-2, "03"}, {-64, "7f"}, {64, "80 01"}, {-65, "81 01"},
		{math.MaxInt64, "fe ff ff ff ff ff ff ff ff 01"}, {math.MinInt64, "ff ff ff ff ff ff ff ff ff 01"},
	} {
		if got := PutInt(x.n); !bytes.Equal(got, row(t, x.want)) {
			t.Errorf("PutInt(%d) = % x, want %s", x.n, got, x.want)
		}
	}
}

func TestP1_1AgainstTheLibrary(t *testing.T) {
	for _, n := range numbers() {
		if got, want := Put(n), binary.AppendUvarint(nil, n); !bytes.Equal(got, want) {
			t.Errorf("Put(%d) = % x, want % x", n, got, want)
		}
		if got, want := PutInt(int64(n)), binary.AppendVarint(nil, int64(n)); !bytes.Equal(got, want) {
			t.Errorf("PutInt(%d) = % x, want % x", int64(n), got, want)
		}
		whole := binary.LittleEndian.AppendUint64(nil, n)
		for size := 1; size <= 8; size++ {
			if got := Fixed(n, size); !bytes.Equal(got, whole[:size]) {
				t.Errorf("Fixed(%d, %d) = % x, want % x", n, size, got, whole[:size])
			}
		}
	}
}

func TestP1_1Fixed(t *testing.T) {
	for _, x := range []struct {
		n    uint64
		size int
		want string
	}{
		{258, 2, "02 01"}, {258, 1, "02"}, {258, 4, "02 01 00 00"}, {0, 1, "00"},
		{math.MaxUint64, 8, "ff ff ff ff ff ff ff ff"}, {1 << 56, 8, "00 00 00 00 00 00 00 01"}, {1 << 56, 7, "00 00 00 00 00 00 00"},
		{1, 9, ""}, {1, 0, ""}, {1, -1, ""}, {1, 64, ""}, {1, math.MaxInt, ""}, {1, math.MinInt, ""},
	} {
		if got := Fixed(x.n, x.size); !bytes.Equal(got, row(t, x.want)) {
			t.Errorf("Fixed(%d, %d) = % x, want %s", x.n, x.size, got, x.want)
		}
	}
}

// getRows are bytes and what Get must answer of them.
var getRows = []struct {
	b    string
	at   int
	n    uint64
	next int
	err  api.Errno
}{
	{"00", 0, 0, 1, api.OK}, {"7f", 0, 127, 1, api.OK}, {"80 01", 0, 128, 2, api.OK}, {"ac 02", 0, 300, 2, api.OK},
	{"ff ac 02 ff", 1, 300, 3, api.OK}, {"05 00", 0, 5, 1, api.OK}, {"80 05 00", 2, 0, 3, api.OK},

	{"", 1, 0, 0, api.ErrArg}, {"", -1, 0, 0, api.ErrArg}, {"05", 2, 0, 0, api.ErrArg}, {"05", -1, 0, 0, api.ErrArg},
	{"05", math.MaxInt, 0, 0, api.ErrArg}, {"05", math.MinInt, 0, 0, api.ErrArg},

	{"", 0, 0, 0, api.ErrShort}, {"05", 1, 0, 0, api.ErrShort}, {"80", 0, 0, 0, api.ErrShort}, {"05 ff", 1, 0, 0, api.ErrShort},
	{"80 80 80 80 80 80 80 80", 0, 0, 0, api.ErrShort}, {"ff ff ff ff ff ff ff ff ff", 0, 0, 0, api.ErrShort},

	{"80 00", 0, 0, 0, api.ErrForm}, {"ff 00", 0, 0, 0, api.ErrForm}, {"80 00 05", 0, 0, 0, api.ErrForm},
	{"05 80 80 00", 1, 0, 0, api.ErrForm}, {"ff ff ff ff ff ff ff ff 00", 0, 0, 0, api.ErrForm},

	{"ff ff ff ff ff ff ff ff 7f", 0, 1<<63 - 1, 9, api.OK},
	{"80 80 80 80 80 80 80 80 80 01", 0, 1 << 63, 10, api.OK},
	{"ff ff ff ff ff ff ff ff ff 01", 0, math.MaxUint64, 10, api.OK},
	{"07 ff ff ff ff ff ff ff ff ff 01 07", 1, math.MaxUint64, 11, api.OK},
	{"ff ff ff ff ff ff ff ff ff 00", 0, 0, 0, api.ErrForm},
	{"ff ff ff ff ff ff ff ff ff 02", 0, 0, 0, api.ErrForm},
	{"ff ff ff ff ff ff ff ff ff 7f", 0, 0, 0, api.ErrForm},
	{"ff ff ff ff ff ff ff ff ff 80", 0, 0, 0, api.ErrForm},
	{"ff ff ff ff ff ff ff ff ff 81", 0, 0, 0, api.ErrForm},
	{"ff ff ff ff ff ff ff ff ff 80 00", 0, 0, 0, api.ErrForm},
	{"ff ff ff ff ff ff ff ff ff 81 01", 0, 0, 0, api.ErrForm},
}

// half tells the signed number whose short form is that of n.
func half(n uint64) int64 {
	if n%2 == 0 {
		return int64(n / 2)
	}
	return -int64(n/2) - 1
}

func TestP1_2Get(t *testing.T) {
	for _, x := range getRows {
		n, next, err := Get(row(t, x.b), x.at)
		if n != x.n || next != x.next || err != x.err {
			t.Errorf("Get(%s, %d) = %d, %d, %d, want %d, %d, %d", x.b, x.at, n, next, err, x.n, x.next, x.err)
		}
	}
}

func TestP1_2GetInt(t *testing.T) {
	for _, x := range getRows {
		n, next, err := GetInt(row(t, x.b), x.at)
		if n != half(x.n) || next != x.next || err != x.err {
			t.Errorf("GetInt(%s, %d) = %d, %d, %d, want %d, %d, %d", x.b, x.at, n, next, err, half(x.n), x.next, x.err)
		}
	}
	for _, x := range []struct {
		b string
		n int64
	}{
		{"00", 0}, {"01", -1}, {"02", 1}, {"7f", -64}, {"80 01", 64},
		{"fe ff ff ff ff ff ff ff ff 01", math.MaxInt64}, {"ff ff ff ff ff ff ff ff ff 01", math.MinInt64},
	} {
		b := row(t, x.b)
		if n, next, err := GetInt(b, 0); n != x.n || next != len(b) || err != api.OK {
			t.Errorf("GetInt(%s, 0) = %d, %d, %d, want %d", x.b, n, next, err, x.n)
		}
	}
}

// TestP1_2TenthByte goes through all tenth bytes, alone and with an eleventh behind them.
func TestP1_2TenthByte(t *testing.T) {
	for c := range 256 {
		for _, behind := range []string{"", "00", "01", "80"} {
			b := append(bytes.Repeat([]byte{0x80}, 9), byte(c))
			b = append(b, row(t, behind)...)
			n, next, err := Get(b, 0)
			if c == 1 {
				if n != 1<<63 || next != 10 || err != api.OK {
					t.Errorf("Get(% x) = %d, %d, %d", b, n, next, err)
				}
			} else if n != 0 || next != 0 || err != api.ErrForm {
				t.Errorf("Get(% x) = %d, %d, %d, want ErrForm", b, n, next, err)
			}
		}
	}
}

// TestP1_2NilAndEmpty: both mean a row of no bytes.
func TestP1_2NilAndEmpty(t *testing.T) {
	for _, b := range [][]byte{nil, {}} {
		if n, next, err := Get(b, 0); n != 0 || next != 0 || err != api.ErrShort {
			t.Error(n, next, err)
		}
		if n, next, err := GetInt(b, 0); n != 0 || next != 0 || err != api.ErrShort {
			t.Error(n, next, err)
		}
		if n, next, err := Wide(b, 0, 1); n != 0 || next != 0 || err != api.ErrShort {
			t.Error(n, next, err)
		}
	}
}

func TestP1_3Wide(t *testing.T) {
	for _, x := range []struct {
		b        string
		at, size int
		n        uint64
		next     int
		err      api.Errno
	}{
		{"02 01", 0, 2, 258, 2, api.OK}, {"02 01", 0, 1, 2, 1, api.OK}, {"02 01", 1, 1, 1, 2, api.OK},
		{"09 01 02 03 09", 1, 3, 0x030201, 4, api.OK}, {"00 00", 0, 2, 0, 2, api.OK},
		{"ff ff ff ff ff ff ff ff", 0, 8, math.MaxUint64, 8, api.OK},
		{"00 01 02 03 04 05 06 07 08 09", 1, 8, 0x0807060504030201, 9, api.OK},

		{"02", 0, 0, 0, 0, api.ErrArg}, {"02", 0, -1, 0, 0, api.ErrArg}, {"02", 0, 9, 0, 0, api.ErrArg},
		{"00 01 02 03 04 05 06 07 08 09", 0, 9, 0, 0, api.ErrArg},
		{"02", 0, math.MaxInt, 0, 0, api.ErrArg}, {"02", 0, math.MinInt, 0, 0, api.ErrArg},
		{"02", -1, 1, 0, 0, api.ErrArg}, {"02", 2, 1, 0, 0, api.ErrArg}, {"", 1, 1, 0, 0, api.ErrArg},
		{"02", math.MaxInt, 8, 0, 0, api.ErrArg}, {"02", math.MinInt, 8, 0, 0, api.ErrArg}, {"02", 5, 9, 0, 0, api.ErrArg},

		{"02", 0, 2, 0, 0, api.ErrShort}, {"", 0, 1, 0, 0, api.ErrShort}, {"02", 1, 1, 0, 0, api.ErrShort},
		{"01 02 03 04 05 06 07 08", 1, 8, 0, 0, api.ErrShort},
	} {
		n, next, err := Wide(row(t, x.b), x.at, x.size)
		if n != x.n || next != x.next || err != x.err {
			t.Errorf("Wide(%s, %d, %d) = %d, %d, %d, want %d, %d, %d", x.b, x.at, x.size, n, next, err, x.n, x.next, x.err)
		}
	}
}

func TestP1_4Sum(t *testing.T) {
	if got := Sum(); got != 0 {
		t.Errorf("the sum of none is %x", got)
	}
	if got := Sum([]byte{}...); got != 0 {
		t.Errorf("the sum of an empty row is %x", got)
	}
	if got := Sum([]byte("123456789")...); got != 0xcbf43926 {
		t.Errorf("the sum of the digits is %x", got)
	}
	if got := Sum('1', '2', '3'); got != Sum([]byte("123")...) {
		t.Errorf("bytes one by one have the sum %x", got)
	}
	b := make([]byte, 0, 512)
	for c := range 512 {
		if one := Sum(byte(c)); one != crc32.ChecksumIEEE([]byte{byte(c)}) {
			t.Errorf("the sum of %02x is %x", byte(c), one)
		}
		b = append(b, byte(c*c+c>>3))
		if got, want := Sum(b...), crc32.ChecksumIEEE(b); got != want {
			t.Errorf("the sum of % x is %x, want %x", b, got, want)
		}
	}
}

// TestP1_5OnlyRead holds what is handed in, and what lies behind its length, against a copy of it.
func TestP1_5OnlyRead(t *testing.T) {
	whole := row(t, "09 ac 02 80 00 ff 80 80 01 7f 11 22 33")
	kept := bytes.Clone(whole)
	for at := -1; at <= len(whole)+1; at++ {
		for end := range len(whole) + 1 {
			b := whole[:end]
			Get(b, at)
			GetInt(b, at)
			Sum(b...)
			for size := range 10 {
				Wide(b, at, size)
			}
		}
	}
	if !bytes.Equal(whole, kept) {
		t.Errorf("% x became % x", kept, whole)
	}
}

// TestP1_5NewMemory spoils an answer with all that lies behind it, and asks again.
func TestP1_5NewMemory(t *testing.T) {
	calls := []func() []byte{
		func() []byte { return Put(0) },
		func() []byte { return Put(math.MaxUint64) },
		func() []byte { return PutInt(-300) },
		func() []byte { return Fixed(0x0102030405060708, 8) },
		func() []byte { return Fixed(0, 1) },
		func() []byte { return Fixed(1, 9) },
	}
	for i, call := range calls {
		first, second := call(), call()
		kept := bytes.Clone(first)
		spoilt := first[:cap(first)]
		for j := range spoilt {
			spoilt[j] = ^spoilt[j]
		}
		if third := call(); !bytes.Equal(second, kept) || !bytes.Equal(third, kept) {
			t.Errorf("call %d: % x, then % x and % x", i, kept, second, third)
		}
	}
}

// TestP1_6RoundTrips reads what was written, whatever stands ahead and behind.
func TestP1_6RoundTrips(t *testing.T) {
	around := []string{"", "00", "01", "7f", "80", "ff", "80 80 80", "ff ff ff ff ff ff ff ff ff ff ff"}
	for _, n := range numbers() {
		for _, ahead := range around {
			for _, behind := range around {
				pre, post := row(t, ahead), row(t, behind)
				at := len(pre)
				b := Put(n)
				if m, next, err := Get(slices.Concat(pre, b, post), at); m != n || next != at+len(b) || err != api.OK {
					t.Errorf("Get of Put(%d) = %d, %d, %d", n, m, next, err)
				}
				b = PutInt(int64(n))
				if m, next, err := GetInt(slices.Concat(pre, b, post), at); m != int64(n) || next != at+len(b) || err != api.OK {
					t.Errorf("GetInt of PutInt(%d) = %d, %d, %d", int64(n), m, next, err)
				}
				for size := 1; size <= 8; size++ {
					has := n << (64 - 8*size) >> (64 - 8*size)
					b = Fixed(n, size)
					if m, next, err := Wide(slices.Concat(pre, b, post), at, size); m != has || next != at+size || err != api.OK {
						t.Errorf("Wide of Fixed(%d, %d) = %d, %d, %d", n, size, m, next, err)
					}
				}
			}
		}
	}
}

// TestP1_6PutOfGet goes through all rows of two bytes with some third ones, at each place.
func TestP1_6PutOfGet(t *testing.T) {
	for i := range 1 << 16 {
		for _, c := range []byte{0, 1, 0x7f, 0x80, 0xff} {
			b := []byte{byte(i), byte(i >> 8), c}
			for at := range len(b) + 1 {
				holdPutOfGet(t, b, at)
			}
		}
	}
}

func holdPutOfGet(t *testing.T, b []byte, at int) {
	n, next, err := Get(b, at)
	m, nextInt, errInt := GetInt(b, at)
	if err != errInt || next != nextInt {
		t.Fatalf("% x at %d: Get %d, %d; GetInt %d, %d", b, at, next, err, nextInt, errInt)
	}
	if err != api.OK {
		if n != 0 || m != 0 || next != 0 {
			t.Fatalf("% x at %d: %d, %d, %d beside error %d", b, at, n, m, next, err)
		}
		return
	}
	read := b[at:next]
	if !bytes.Equal(Put(n), read) || !bytes.Equal(PutInt(m), read) {
		t.Fatalf("% x at %d: Put(%d) = % x, PutInt(%d) = % x", b, at, n, Put(n), m, PutInt(m))
	}
}

func TestP1_6GreaterIsNoShorter(t *testing.T) {
	size := 0
	for _, n := range numbers() {
		if got := len(Put(n)); got < size {
			t.Errorf("Put(%d) has %d bytes, a smaller number has %d", n, got, size)
		} else {
			size = got
		}
	}
	if size != 10 {
		t.Errorf("the greatest number has %d bytes", size)
	}
}

// TestP1_6OneByteChanged puts each other byte in each place.
func TestP1_6OneByteChanged(t *testing.T) {
	for _, s := range []string{"00", "ff", "54 52 4d 01 00 00 00", "00 00 00 00 00 00 00 00 00 00 00 00", "31 32 33 34 35 36 37 38 39"} {
		b := row(t, s)
		sum := Sum(b...)
		for i := range b {
			for turn := 1; turn < 256; turn++ {
				other := bytes.Clone(b)
				other[i] ^= byte(turn)
				if Sum(other...) == sum {
					t.Errorf("% x and % x have one sum", b, other)
				}
			}
		}
	}
}

func FuzzPutOfGet(f *testing.F) {
	f.Add([]byte{0x80, 0x01}, 0)
	f.Add([]byte{0xff, 0xff, 0xff, 0xff, 0xff, 0xff, 0xff, 0xff, 0xff, 0x01}, 0)
	f.Fuzz(func(t *testing.T, b []byte, at int) { holdPutOfGet(t, b, at) })
}
