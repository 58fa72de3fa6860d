package word

import (
	"math"
	"math/big"
	"slices"
	"testing"

	"trammel/api"
)

var (
	widths  = []uint8{api.I8, api.I32, api.I64}
	twoOps  = []uint8{api.OpAdd, api.OpSub, api.OpMul, api.OpDiv, api.OpRem, api.OpAnd, api.OpOr, api.OpXor, api.OpShl, api.OpShr}
	oneOps  = []uint8{api.OpNeg, api.OpNot}
	testOps = []uint8{api.OpEq, api.OpNe, api.OpLt, api.OpLe, api.OpGt, api.OpGe}
)

// plainBits tells the bits of a width, so that what is tested is not asked.
func plainBits(w uint8) uint { return map[uint8]uint{api.I8: 8, api.I32: 32, api.I64: 64}[w] }

func least(w uint8) int64    { return -1 << (plainBits(w) - 1) }
func greatest(w uint8) int64 { return 1<<(plainBits(w)-1) - 1 }

// numbers tells small numbers, those around the edges of all widths and around their bits, and some with mixed bits: each width is asked of numbers that it lacks, too.
func numbers() []int64 {
	out := []int64{300, -300, 0x5555555555555555, -0x5555555555555556, 0x0123456789abcdef, 1000003, -1000003}
	for _, w := range widths {
		for _, edge := range []int64{0, int64(plainBits(w)), -int64(plainBits(w)), least(w), greatest(w)} {
			out = append(out, edge-2, edge-1, edge, edge+1, edge+2)
		}
		if w != api.I64 {
			out = append(out, 1<<plainBits(w)-1, 1<<plainBits(w), 1<<plainBits(w)+1, -1<<plainBits(w))
		}
	}
	slices.Sort(out)
	return slices.Compact(out)
}

// few tells the numbers for laws of three.
func few() []int64 {
	return []int64{math.MinInt64, math.MinInt32, -200, -128, -7, -1, 0, 1, 2, 8, 127, 128, 65537, math.MaxInt32, 1 << 40, math.MaxInt64}
}

// plainWrap brings n into a width by whole numbers that have no end.
func plainWrap(w uint8, n *big.Int) *big.Int {
	size := new(big.Int).Lsh(big.NewInt(1), plainBits(w))
	n = new(big.Int).Mod(n, size)
	if n.Cmp(big.NewInt(greatest(w))) > 0 {
		n.Sub(n, size)
	}
	return n
}

// plainTwo says P2.2 once more, with numbers that have no end; a and b are wrapped.
func plainTwo(op, w uint8, a, b *big.Int) (*big.Int, int) {
	n := new(big.Int)
	k := uint(new(big.Int).Mod(b, big.NewInt(int64(plainBits(w)))).Int64())
	if (op == api.OpDiv || op == api.OpRem) && b.Sign() == 0 {
		return n, api.TrapDiv
	}
	switch op {
	case api.OpAdd:
		n.Add(a, b)
	case api.OpSub:
		n.Sub(a, b)
	case api.OpMul:
		n.Mul(a, b)
	case api.OpDiv:
		n.Quo(a, b)
	case api.OpRem:
		n.Sub(a, n.Mul(b, n.Quo(a, b)))
	case api.OpAnd:
		n.And(a, b)
	case api.OpOr:
		n.Or(a, b)
	case api.OpXor:
		n.Xor(a, b)
	case api.OpShl:
		n.Mul(a, new(big.Int).Lsh(big.NewInt(1), k))
	case api.OpShr:
		n.Rsh(a, k)
	}
	return plainWrap(w, n), api.TrapNone
}

// number tells what Two answers where no trap may come.
func number(t *testing.T, op, w uint8, a, b int64) int64 {
	t.Helper()
	n, trap := Two(op, w, a, b)
	if trap != api.TrapNone {
		t.Fatalf("Two(%d, %d, %d, %d): trap %d", op, w, a, b, trap)
	}
	return n
}

func TestP2_1Bits(t *testing.T) {
	for w := range 256 {
		want := int(plainBits(uint8(w)))
		if got := Bits(uint8(w)); got != want {
			t.Errorf("Bits(%d) = %d, want %d", w, got, want)
		}
	}
	if Bits(1) != 8 || Bits(2) != 32 || Bits(3) != 64 {
		t.Error("Bits of 1, 2, 3 =", Bits(1), Bits(2), Bits(3))
	}
}

func TestP2_1Fits(t *testing.T) {
	for _, w := range widths {
		for _, n := range numbers() {
			want := n >= least(w) && n <= greatest(w)
			if got := Fits(w, n); got != want {
				t.Errorf("Fits(%d, %d) = %v", w, n, got)
			}
		}
	}
	for _, x := range []struct {
		w    uint8
		n    int64
		want bool
	}{
		{1, 127, true}, {1, 128, false}, {1, -128, true}, {1, -129, false},
		{2, 1<<31 - 1, true}, {2, 1 << 31, false}, {2, -1 << 31, true}, {2, -1<<31 - 1, false},
		{3, math.MaxInt64, true}, {3, math.MinInt64, true},
	} {
		if got := Fits(x.w, x.n); got != x.want {
			t.Errorf("Fits(%d, %d) = %v", x.w, x.n, got)
		}
	}
}

func TestP2_1Wrap(t *testing.T) {
	for _, x := range []struct {
		w       uint8
		n, want int64
	}{
		{1, 128, -128}, {1, 127, 127}, {1, -128, -128}, {1, -129, 127}, {1, 255, -1}, {1, 256, 0}, {1, 300, 44}, {1, -300, -44},
		{2, 1 << 31, -1 << 31}, {2, -1<<31 - 1, 1<<31 - 1}, {2, 1<<32 + 5, 5}, {2, 128, 128},
		{3, math.MaxInt64, math.MaxInt64}, {3, math.MinInt64, math.MinInt64}, {9, 5, 0},
	} {
		if got := Wrap(x.w, x.n); got != x.want {
			t.Errorf("Wrap(%d, %d) = %d, want %d", x.w, x.n, got, x.want)
		}
	}
	for _, w := range widths {
		for _, n := range numbers() {
			if got, want := Wrap(w, n), plainWrap(w, big.NewInt(n)).Int64(); got != want {
				t.Errorf("Wrap(%d, %d) = %d, want %d", w, n, got, want)
			}
		}
	}
}

func TestP2_2TwoExamples(t *testing.T) {
	for _, x := range []struct {
		op, w      uint8
		a, b, want int64
		trap       int
	}{
		{api.OpAdd, 1, 100, 100, -56, api.TrapNone},
		{api.OpMul, 2, 1 << 30, 4, 0, api.TrapNone},
		{api.OpSub, 3, math.MinInt64, 1, math.MaxInt64, api.TrapNone},
		{api.OpSub, 1, 0, -128, -128, api.TrapNone},
		{api.OpSub, 1, -128, -128, 0, api.TrapNone},
		{api.OpDiv, 1, -7, 2, -3, api.TrapNone},
		{api.OpRem, 1, -7, 2, -1, api.TrapNone},
		{api.OpDiv, 1, 7, -2, -3, api.TrapNone},
		{api.OpRem, 1, 7, -2, 1, api.TrapNone},
		{api.OpDiv, 1, -128, -1, -128, api.TrapNone},
		{api.OpRem, 1, -128, -1, 0, api.TrapNone},
		{api.OpDiv, 2, math.MinInt32, -1, math.MinInt32, api.TrapNone},
		{api.OpRem, 2, math.MinInt32, -1, 0, api.TrapNone},
		{api.OpDiv, 3, math.MinInt64, -1, math.MinInt64, api.TrapNone},
		{api.OpRem, 3, math.MinInt64, -1, 0, api.TrapNone},
		{api.OpDiv, 3, 5, 0, 0, api.TrapDiv},
		{api.OpRem, 3, 5, 0, 0, api.TrapDiv},
		{api.OpDiv, 1, 0, 0, 0, api.TrapDiv},
		{api.OpDiv, 1, 5, 256, 0, api.TrapDiv},
		{api.OpRem, 2, 5, 1 << 32, 0, api.TrapDiv},
		{api.OpDiv, 1, 300, 7, 6, api.TrapNone},
		{api.OpRem, 1, 200, 10, -6, api.TrapNone},
		{api.OpShl, 1, 1, 7, -128, api.TrapNone},
		{api.OpShl, 1, 1, 8, 1, api.TrapNone},
		{api.OpShl, 1, 1, 9, 2, api.TrapNone},
		{api.OpShl, 3, 1, 63, math.MinInt64, api.TrapNone},
		{api.OpShl, 3, 3, 64, 3, api.TrapNone},
		{api.OpShl, 2, 1, -1, math.MinInt32, api.TrapNone},
		{api.OpShl, 2, 5, -32, 5, api.TrapNone},
		{api.OpShr, 1, -128, 7, -1, api.TrapNone},
		{api.OpShr, 1, -128, -1, -1, api.TrapNone},
		{api.OpShr, 1, -3, 1, -2, api.TrapNone},
		{api.OpShr, 1, 255, 4, -1, api.TrapNone},
		{api.OpShr, 3, math.MinInt64, math.MinInt64, math.MinInt64, api.TrapNone},
		{api.OpAnd, 1, -1, 15, 15, api.TrapNone},
		{api.OpOr, 1, 128, 1, -127, api.TrapNone},
		{api.OpXor, 1, -1, 15, -16, api.TrapNone},
	} {
		if got, trap := Two(x.op, x.w, x.a, x.b); got != x.want || trap != x.trap {
			t.Errorf("Two(%d, %d, %d, %d) = %d, %d, want %d, %d", x.op, x.w, x.a, x.b, got, trap, x.want, x.trap)
		}
	}
}

// holdTwo holds all ops of two numbers to the plain reckoning.
func holdTwo(t *testing.T, w uint8, a, b int64) {
	t.Helper()
	plainA, plainB := plainWrap(w, big.NewInt(a)), plainWrap(w, big.NewInt(b))
	for _, op := range twoOps {
		want, wantTrap := plainTwo(op, w, plainA, plainB)
		if got, trap := Two(op, w, a, b); got != want.Int64() || trap != wantTrap {
			t.Fatalf("Two(%d, %d, %d, %d) = %d, %d, want %d, %d", op, w, a, b, got, trap, want, wantTrap)
		}
	}
}

func TestP2_2AllOf8Bits(t *testing.T) {
	for a := least(api.I8); a <= greatest(api.I8); a++ {
		for b := least(api.I8); b <= greatest(api.I8); b++ {
			holdTwo(t, api.I8, a, b)
		}
	}
}

func TestP2_2EdgesOfAllWidths(t *testing.T) {
	for _, w := range widths {
		for _, a := range numbers() {
			for _, b := range numbers() {
				holdTwo(t, w, a, b)
			}
		}
	}
}

// TestP2_2Counts moves by each count around the bits, on both sides of 0.
func TestP2_2Counts(t *testing.T) {
	for _, w := range widths {
		bits := int64(plainBits(w))
		for k := -2*bits - 1; k <= 2*bits+1; k++ {
			for _, a := range numbers() {
				holdTwo(t, w, a, k)
			}
		}
	}
}

func TestP2_3One(t *testing.T) {
	for _, x := range []struct {
		op, w   uint8
		a, want int64
	}{
		{api.OpNeg, 1, -128, -128}, {api.OpNeg, 1, 127, -127}, {api.OpNeg, 1, 1, -1}, {api.OpNeg, 1, 0, 0}, {api.OpNeg, 1, 255, 1},
		{api.OpNeg, 2, math.MinInt32, math.MinInt32}, {api.OpNeg, 3, math.MinInt64, math.MinInt64}, {api.OpNeg, 2, -128, 128},
		{api.OpNot, 1, 0, -1}, {api.OpNot, 1, -128, 127}, {api.OpNot, 1, 255, 0}, {api.OpNot, 3, 5, -6}, {api.OpNot, 2, 1 << 32, -1},
		{api.OpAdd, 1, 5, 0},
	} {
		if got := One(x.op, x.w, x.a); got != x.want {
			t.Errorf("One(%d, %d, %d) = %d, want %d", x.op, x.w, x.a, got, x.want)
		}
	}
	for _, w := range widths {
		for _, a := range numbers() {
			for i, from := range []int64{0, -1} {
				want := plainWrap(w, new(big.Int).Sub(big.NewInt(from), big.NewInt(a))).Int64()
				if got := One(oneOps[i], w, a); got != want {
					t.Errorf("One(%d, %d, %d) = %d, want %d", oneOps[i], w, a, got, want)
				}
			}
		}
	}
}

func TestP2_4Test(t *testing.T) {
	for _, x := range []struct {
		op, w uint8
		a, b  int64
		want  bool
	}{
		{api.OpLt, 1, 200, 0, true}, {api.OpLt, 2, 200, 0, false}, {api.OpAdd, 1, 0, 0, false},
		{api.OpEq, 1, 0, 256, true}, {api.OpEq, 2, 0, 256, false}, {api.OpNe, 1, 255, -1, false},
		{api.OpGt, 2, 1 << 31, 0, false}, {api.OpGt, 3, 1 << 31, 0, true},
		{api.OpLe, 3, math.MinInt64, math.MaxInt64, true}, {api.OpGe, 3, math.MinInt64, math.MaxInt64, false},
	} {
		if got := Test(x.op, x.w, x.a, x.b); got != x.want {
			t.Errorf("Test(%d, %d, %d, %d) = %v", x.op, x.w, x.a, x.b, got)
		}
	}
	for _, w := range widths {
		for _, a := range numbers() {
			for _, b := range numbers() {
				c := plainWrap(w, big.NewInt(a)).Cmp(plainWrap(w, big.NewInt(b)))
				for i, want := range []bool{c == 0, c != 0, c < 0, c <= 0, c > 0, c >= 0} {
					if got := Test(testOps[i], w, a, b); got != want {
						t.Fatalf("Test(%d, %d, %d, %d) = %v", testOps[i], w, a, b, got)
					}
				}
			}
		}
	}
}

// TestP2NoWidth asks all calls of all that is no width.
func TestP2NoWidth(t *testing.T) {
	for i := range 256 {
		w := uint8(i)
		if slices.Contains(widths, w) {
			continue
		}
		for _, a := range few() {
			if Bits(w) != 0 || Fits(w, a) || Wrap(w, a) != 0 {
				t.Fatalf("width %d of %d: %d, %v, %d", w, a, Bits(w), Fits(w, a), Wrap(w, a))
			}
			for op := range 256 {
				n, trap := Two(uint8(op), w, a, 0)
				m, trapToo := Two(uint8(op), w, a, a)
				if n != 0 || trap != api.TrapNone || m != 0 || trapToo != api.TrapNone {
					t.Fatalf("Two(%d, %d, %d, ..) = %d, %d; %d, %d", op, w, a, n, trap, m, trapToo)
				}
				if One(uint8(op), w, a) != 0 || Test(uint8(op), w, a, a) || Test(uint8(op), w, a, 1) || Test(uint8(op), w, 1, a) {
					t.Fatalf("One or Test of %d, %d, %d", op, w, a)
				}
			}
		}
	}
}

// TestP2OtherOps asks each call of all that is no op of its own.
func TestP2OtherOps(t *testing.T) {
	for i := range 256 {
		op := uint8(i)
		for _, w := range widths {
			for _, a := range few() {
				for _, b := range few() {
					if n, trap := Two(op, w, a, b); !slices.Contains(twoOps, op) && (n != 0 || trap != api.TrapNone) {
						t.Fatalf("Two(%d, %d, %d, %d) = %d, %d", op, w, a, b, n, trap)
					}
					if !slices.Contains(testOps, op) && Test(op, w, a, b) {
						t.Fatalf("Test(%d, %d, %d, %d)", op, w, a, b)
					}
				}
				if n := One(op, w, a); !slices.Contains(oneOps, op) && n != 0 {
					t.Fatalf("One(%d, %d, %d) = %d", op, w, a, n)
				}
			}
		}
	}
}

func TestP2_5AnswersFit(t *testing.T) {
	for _, w := range widths {
		for _, a := range numbers() {
			if !Fits(w, Wrap(w, a)) || !Fits(w, One(api.OpNeg, w, a)) || !Fits(w, One(api.OpNot, w, a)) {
				t.Fatal(w, a)
			}
			for _, b := range numbers() {
				for _, op := range twoOps {
					if n, _ := Two(op, w, a, b); !Fits(w, n) {
						t.Fatalf("Two(%d, %d, %d, %d) = %d", op, w, a, b, n)
					}
				}
			}
		}
	}
}

func TestP2_5OrderAndGrouping(t *testing.T) {
	for _, w := range widths {
		for _, a := range few() {
			for _, b := range few() {
				for _, c := range few() {
					holdThree(t, w, a, b, c)
				}
			}
		}
	}
}

func holdThree(t *testing.T, w uint8, a, b, c int64) {
	t.Helper()
	for _, op := range []uint8{api.OpAdd, api.OpMul} {
		if number(t, op, w, a, b) != number(t, op, w, b, a) {
			t.Fatal("order", op, w, a, b)
		}
		if number(t, op, w, number(t, op, w, a, b), c) != number(t, op, w, a, number(t, op, w, b, c)) {
			t.Fatal("grouping", op, w, a, b, c)
		}
	}
	atOnce := number(t, api.OpMul, w, a, number(t, api.OpAdd, w, b, c))
	parted := number(t, api.OpAdd, w, number(t, api.OpMul, w, a, b), number(t, api.OpMul, w, a, c))
	if atOnce != parted {
		t.Fatal("parting", w, a, b, c)
	}
}

func TestP2_5Pairs(t *testing.T) {
	for _, w := range widths {
		for _, a := range numbers() {
			for _, b := range numbers() {
				if number(t, api.OpSub, w, number(t, api.OpAdd, w, a, b), b) != Wrap(w, a) {
					t.Fatal("taken away", w, a, b)
				}
				if number(t, api.OpXor, w, number(t, api.OpXor, w, a, b), b) != Wrap(w, a) {
					t.Fatal("xor twice", w, a, b)
				}
				holdDivision(t, w, a, b)
				holdOneHolds(t, w, a, b)
			}
			if One(api.OpNot, w, a) != number(t, api.OpXor, w, a, -1) {
				t.Fatal("not", w, a)
			}
			for k := range int64(plainBits(w)) {
				if number(t, api.OpShl, w, a, k) != number(t, api.OpMul, w, a, 1<<k) {
					t.Fatal("shl", w, a, k)
				}
			}
		}
	}
}

func holdDivision(t *testing.T, w uint8, a, b int64) {
	t.Helper()
	if Wrap(w, b) == 0 {
		return
	}
	quotient, rest := number(t, api.OpDiv, w, a, b), number(t, api.OpRem, w, a, b)
	if number(t, api.OpAdd, w, number(t, api.OpMul, w, b, quotient), rest) != Wrap(w, a) {
		t.Fatal("quotient and rest", w, a, b, quotient, rest)
	}
	if rest != 0 && (rest < 0) != (Wrap(w, a) < 0) {
		t.Fatal("sign of the rest", w, a, b, rest)
	}
}

func holdOneHolds(t *testing.T, w uint8, a, b int64) {
	t.Helper()
	holding := 0
	for _, op := range []uint8{api.OpLt, api.OpEq, api.OpGt} {
		if Test(op, w, a, b) {
			holding++
		}
	}
	if holding != 1 {
		t.Fatal(holding, "hold of", w, a, b)
	}
}

func TestP2_5NarrowerAndWider(t *testing.T) {
	alike := []uint8{api.OpAdd, api.OpSub, api.OpMul, api.OpAnd, api.OpOr, api.OpXor}
	for _, pair := range [][2]uint8{{api.I8, api.I32}, {api.I8, api.I64}, {api.I32, api.I64}} {
		narrow, wide := pair[0], pair[1]
		for _, a := range numbers() {
			for _, b := range numbers() {
				for _, op := range alike {
					if number(t, op, narrow, a, b) != Wrap(narrow, number(t, op, wide, a, b)) {
						t.Fatal(op, narrow, wide, a, b)
					}
				}
			}
			for _, op := range oneOps {
				if One(op, narrow, a) != Wrap(narrow, One(op, wide, a)) {
					t.Fatal(op, narrow, wide, a)
				}
			}
		}
	}
}

func FuzzTwo(f *testing.F) {
	f.Add(uint8(0), int64(-128), int64(-1))
	f.Add(uint8(1), int64(math.MinInt32), int64(0))
	f.Add(uint8(2), int64(math.MinInt64), int64(-1))
	f.Fuzz(func(t *testing.T, w uint8, a, b int64) {
		holdTwo(t, widths[int(w)%len(widths)], a, b)
	})
}
