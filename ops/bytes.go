package ops

import (
	"trammel/api"
	"trammel/wire"
)

// writer puts an instruction's bytes one behind the other.
type writer struct{ code []byte }

func (w *writer) put(b ...byte) { w.code = append(w.code, b...) }

// number puts as many bytes as k has: of an A or a B that is not told none.
func (w *writer) number(k number, n int64) { w.put(wire.Fixed(uint64(n), k.size)...) }

func (w *writer) arms(arms ...api.Arm) {
	w.number(short(), int64(len(arms)))
	for _, x := range arms {
		w.number(value(api.I64), x.Value) // a Value has the same bytes whatever the width
		w.number(place(), int64(x.To))
	}
}

// reader goes through what stands behind an Op from left to right; behind its first error it reads nothing.
type reader struct {
	code []byte
	at   int
	err  api.Errno
}

func (r *reader) number(k number) int64 {
	if r.err != api.OK || k.size == 0 {
		return 0
	}
	bits, next, err := wire.Wide(r.code, r.at, k.size)
	if err != api.OK {
		r.err = err
		return 0
	}
	n := k.signed(int64(bits))
	if !k.may(n) {
		r.err = api.ErrOp
		return 0
	}
	r.at = next
	return n
}

// arms reads a switch's arms, whose Values are of the width w. They are put one by one: how many there are is anybody's word
// till their bytes are seen.
func (r *reader) arms(w uint8) []api.Arm {
	var list []api.Arm
	a, b := value(w), place()
	for range r.number(short()) {
		x := api.Arm{Value: r.number(a), To: int(r.number(b))}
		if r.err != api.OK {
			return nil
		}
		list = append(list, x)
	}
	return list
}
