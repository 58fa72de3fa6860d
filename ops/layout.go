package ops

import (
	"trammel/api"
	"trammel/word"
)

const (
	maxByte  = 1<<8 - 1
	maxShort = 1<<16 - 1
	maxPlace = 1<<32 - 1
)

// number tells of a number that stands behind an Op: how many bytes it has, and which it may be.
type number struct {
	size  int
	width uint8 // the width as whose number its bytes are read; 0: they are one without a sign
	may   func(n int64) bool
}

// signed tells the number that bytes stand for, which were read as one without a sign.
func (k number) signed(n int64) int64 {
	if k.width == 0 {
		return n
	}
	return word.Wrap(k.width, n)
}

// nothing is what is not told: it has no bytes, and must be 0.
func nothing() number { return number{may: isNothing} }

func letter() number { return number{size: 1, may: isByte} }

func short() number { return number{size: 2, may: isShort} }

func place() number { return number{size: 4, may: isPlace} }

func width() number { return number{size: 1, may: isWidth} }

// kind is a width, or one of the further types whose values are held against each other.
func kind() number { return number{size: 1, may: isKind} }

// whole is a number that the width w has, in just its bytes.
func whole(w uint8) number {
	k := number{size: word.Bits(w) / 8, width: w}
	switch w {
	case api.I8:
		k.may = fitsI8
	case api.I32:
		k.may = fitsI32
	default:
		k.may = fitsI64
	}
	return k
}

// value is an arm's: one that the width w has, in the bytes of the widest.
func value(w uint8) number {
	k := whole(api.I64)
	k.may = whole(w).may
	return k
}

// A function for each, rather than one that closes over the bounds: each instruction asks, and these cost no memory.

func isNothing(n int64) bool { return n == 0 }

func isByte(n int64) bool { return n >= 0 && n <= maxByte }

func isShort(n int64) bool { return n >= 0 && n <= maxShort }

func isPlace(n int64) bool { return n >= 0 && n <= maxPlace }

func isWidth(n int64) bool { return n >= api.I8 && n <= api.I64 }

func isKind(n int64) bool { return n >= api.I8 && n <= api.Text }

func fitsI8(n int64) bool { return word.Fits(api.I8, n) }

func fitsI32(n int64) bool { return word.Fits(api.I32, n) }

func fitsI64(n int64) bool { return word.Fits(api.I64, n) }

// layout tells what stands behind an Op: A, then the arms, if it has such, then B.
type layout struct {
	a, b number
	arms bool
}

// layoutOf tells the layout of an Op; false, if there is no such Op.
func layoutOf(op uint8) (layout, bool) {
	l := layout{a: nothing(), b: nothing()}
	switch op {
	case api.OpI8:
		l.a = whole(api.I8)
	case api.OpI32:
		l.a = whole(api.I32)
	case api.OpI64:
		l.a = whole(api.I64)
	case api.OpText, api.OpGet, api.OpPut, api.OpCall, api.OpNew, api.OpFill, api.OpEmpty,
		api.OpAt, api.OpSetAt, api.OpLen, api.OpPush, api.OpDrop:
		l.a = short()
	case api.OpField, api.OpSetField:
		l.a, l.b = short(), short()
	case api.OpAdd, api.OpSub, api.OpMul, api.OpDiv, api.OpRem, api.OpAnd, api.OpOr, api.OpXor, api.OpShl, api.OpShr,
		api.OpNeg, api.OpNot, api.OpLt, api.OpLe, api.OpGt, api.OpGe:
		l.a = width()
	case api.OpEq, api.OpNe:
		l.a = kind()
	case api.OpConv:
		l.a, l.b = width(), width()
	case api.OpJump, api.OpUnless, api.OpWhen:
		l.a = place()
	case api.OpTrap:
		l.a = letter()
	case api.OpSwitch:
		l.a, l.b, l.arms = width(), place(), true
	case api.OpTrue, api.OpFalse, api.OpPop, api.OpDup, api.OpFlip, api.OpCat, api.OpSize,
		api.OpCharAt, api.OpCut, api.OpByte, api.OpReturn: // nothing stands behind these
	default:
		return layout{}, false
	}
	return l, true
}

// size tells how many bytes an instruction has.
func (l layout) size(arms int) int {
	n := 1 + l.a.size + l.b.size
	if l.arms {
		n += short().size + arms*(value(api.I64).size+place().size)
	}
	return n
}

// has: is this an instruction of the layout?
func (l layout) has(x api.Instr) bool {
	return l.a.may(x.A) && l.b.may(x.B) && l.hasArms(uint8(x.A), x.Arms)
}

func (l layout) hasArms(w uint8, arms []api.Arm) bool {
	if !l.arms {
		return len(arms) == 0
	}
	if len(arms) > maxShort {
		return false
	}
	a, b := value(w), place()
	for _, x := range arms {
		if !a.may(x.Value) || !b.may(int64(x.To)) {
			return false
		}
	}
	return true
}
