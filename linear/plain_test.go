package linear

import (
	"encoding/binary"
	"fmt"
	"math"
	"reflect"
	"slices"
	"strings"

	"trammel/api"
)

// A second reading of the chapter. Where a label stands is told by how many instructions are ahead of it, its number by how many
// instructions ahead of that one something leads to; what stands behind an Op by a table.

// plainOps are all Ops in their order, and the numbers behind each: s of so many bytes is one of two's complement, u one without a sign,
// w a width, k a width, Bool or Text.
var plainOps = strings.Fields(`i8:s1 i32:s4 i64:s8 true: false: text:u2 get:u2 put:u2 pop: dup:
	add:w1 sub:w1 mul:w1 div:w1 rem:w1 and:w1 or:w1 xor:w1 shl:w1 shr:w1 neg:w1 not:w1 eq:k1 ne:k1 lt:w1 le:w1 gt:w1 ge:w1
	conv:w1,w1 flip: cat: size: charat: cut: byte: new:u2 field:u2,u2 setfield:u2,u2 fill:u2 empty:u2 at:u2 setat:u2 len:u2 push:u2 drop:u2
	jump:u4 unless:u4 when:u4 switch: call:u2 return: trap:u1`)

// plainOp tells an Op's name, and the numbers behind it, but those of a switch.
func plainOp(op uint8) (string, []string) {
	name, numbers, _ := strings.Cut(plainOps[op-1], ":")
	if numbers == "" {
		return name, nil
	}
	return name, strings.Split(numbers, ",")
}

// plainMay: may a number of that kind be n?
func plainMay(kind string, n int64) bool {
	bits := 8 * int(kind[1]-'0')
	switch kind[0] {
	case 's':
		return n >= math.MinInt64>>(64-bits) && n <= math.MaxInt64>>(64-bits)
	case 'u':
		return n >= 0 && n < 1<<bits
	case 'w':
		return n >= 1 && n <= 3
	}
	return n >= 1 && n <= 5
}

func plainSize(kind string) int { return int(kind[1] - '0') }

// plainNumbers are all numbers behind an Op, from left to right, each with its kind; false: the Instr has more than these.
func plainNumbers(x api.Instr) ([]int64, []string, bool) {
	if x.Op == api.OpSwitch {
		numbers, kinds := []int64{x.A, int64(len(x.Arms))}, []string{"w1", "u2"}
		for _, a := range x.Arms {
			numbers, kinds = append(numbers, a.Value, int64(a.To)), append(kinds, "s8", "u4")
		}
		return append(numbers, x.B), append(kinds, "u4"), true
	}
	_, kinds := plainOp(x.Op)
	numbers := []int64{x.A, x.B}
	rest := numbers[len(kinds):]
	return numbers[:len(kinds)], kinds, !slices.ContainsFunc(rest, func(n int64) bool { return n != 0 }) && len(x.Arms) == 0
}

// plainBytes are an instruction's bytes; nil: it is none.
func plainBytes(x api.Instr) []byte {
	if x.Op == 0 || int(x.Op) > len(plainOps) {
		return nil
	}
	numbers, kinds, all := plainNumbers(x)
	if !all {
		return nil
	}
	b := []byte{x.Op}
	for i, n := range numbers {
		if !plainMay(kinds[i], n) {
			return nil
		}
		b = append(b, binary.LittleEndian.AppendUint64(nil, uint64(n))[:plainSize(kinds[i])]...)
	}
	for _, a := range x.Arms {
		if !plainMay([]string{"s1", "s4", "s8"}[x.A-1], a.Value) {
			return nil
		}
	}
	return b
}

// plainTargets are where the targets of an instruction stand in it.
func plainTargets(x *api.Instr) []func() *int64 {
	one := func(p *int64) func() *int64 { return func() *int64 { return p } }
	if x.Op == api.OpJump || x.Op == api.OpUnless || x.Op == api.OpWhen {
		return []func() *int64{one(&x.A)}
	}
	if x.Op == api.OpSwitch {
		return []func() *int64{one(&x.B)}
	}
	return nil
}

// plainTold tells an instruction's targets.
func plainTold(x api.Instr) []int64 {
	var list []int64
	if x.Op == api.OpSwitch {
		for _, a := range x.Arms {
			list = append(list, int64(a.To))
		}
	}
	for _, f := range plainTargets(&x) {
		list = append(list, *f())
	}
	return list
}

// plainPut tells an instruction, new, with other targets.
func plainPut(x api.Instr, f func(to int64) int64) api.Instr {
	x.Arms = slices.Clone(x.Arms)
	if x.Op == api.OpSwitch {
		for i := range x.Arms {
			x.Arms[i].To = int(f(int64(x.Arms[i].To)))
		}
	}
	for _, p := range plainTargets(&x) {
		*p() = f(*p())
	}
	return x
}

func plainIsLabel(x api.Line) bool { return x.X.Op == 0 }

// plainAt tells in which line a label stands; -1: in none.
func plainAt(l []api.Line, label int64) int {
	return slices.IndexFunc(l, func(x api.Line) bool { return plainIsLabel(x) && int64(x.Label) == label })
}

func plainCheck(l []api.Line) api.Errno {
	for i, x := range l {
		empty := x
		empty.Label, empty.X.Arms = 0, nil
		switch {
		case x.X.Op != 0 && (plainBytes(x.X) == nil || x.Label != 0):
			return api.ErrOp
		case x.X.Op == 0 && (len(x.X.Arms) > 0 || !reflect.DeepEqual(empty, api.Line{})):
			return api.ErrOp
		case x.X.Op == 0 && (x.Label < 0 || x.Label > 2147483647 || plainAt(l[:i], int64(x.Label)) >= 0):
			return api.ErrLabels
		}
	}
	for _, x := range l {
		for _, to := range plainTold(x.X) {
			if plainAt(l, to) < 0 {
				return api.ErrLabels
			}
		}
	}
	return api.OK
}

func plainInstrs(l []api.Line) []api.Instr {
	var list []api.Instr
	for _, x := range l {
		if !plainIsLabel(x) {
			list = append(list, x.X)
		}
	}
	return list
}

// plainCounted are the instructions of lines that may be, whose targets are how many instructions are ahead of these.
func plainCounted(l []api.Line) []api.Instr {
	var list []api.Instr
	for _, x := range plainInstrs(l) {
		list = append(list, plainPut(x, func(to int64) int64 { return int64(len(plainInstrs(l[:plainAt(l, to)]))) }))
	}
	return list
}

// plainLabelled are the normal lines of such instructions.
func plainLabelled(list []api.Instr) []api.Line {
	led := make([]bool, len(list)+1)
	for _, x := range list {
		for _, to := range plainTold(x) {
			led[to] = true
		}
	}
	number := func(to int64) int64 {
		var n int64
		for _, ok := range led[:to] {
			if ok {
				n++
			}
		}
		return n
	}
	var l []api.Line
	for i := range led {
		if led[i] {
			l = append(l, api.Line{Label: int(number(int64(i)))})
		}
		if i < len(list) {
			l = append(l, api.Line{X: plainPut(list[i], number)})
		}
	}
	return l
}

func plainNormal(l []api.Line) ([]api.Line, api.Errno) {
	if err := plainCheck(l); err != api.OK {
		return nil, err
	}
	return plainLabelled(plainCounted(l)), api.OK
}

func plainCode(l []api.Line) ([]byte, api.Errno) {
	if err := plainCheck(l); err != api.OK {
		return nil, err
	}
	list := plainCounted(l)
	places := []int64{0}
	for _, x := range list {
		places = append(places, places[len(places)-1]+int64(len(plainBytes(x))))
	}
	if places[len(list)] > 65536 {
		return nil, api.ErrLimit
	}
	var code []byte
	for _, x := range list {
		code = append(code, plainBytes(plainPut(x, func(to int64) int64 { return places[to] }))...)
	}
	return code, api.OK
}

func plainText(l []api.Line) (string, api.Errno) {
	if err := plainCheck(l); err != api.OK {
		return "", err
	}
	text := ""
	for _, line := range l {
		x := line.X
		switch x.Op {
		case 0:
			text += fmt.Sprintf("L%d:\n", line.Label)
		case api.OpJump, api.OpUnless, api.OpWhen:
			name, _ := plainOp(x.Op)
			text += fmt.Sprintf("\t%s L%d\n", name, x.A)
		case api.OpSwitch:
			words := []string{"\tswitch", fmt.Sprint(x.A)}
			for _, a := range x.Arms {
				words = append(words, fmt.Sprintf("%d:L%d", a.Value, a.To))
			}
			text += strings.Join(append(words, fmt.Sprintf("L%d", x.B)), " ") + "\n"
		default:
			name, _ := plainOp(x.Op)
			numbers, _, _ := plainNumbers(x)
			text += strings.TrimRight("\t"+name+" "+strings.Trim(fmt.Sprint(numbers), "[]"), " ") + "\n"
		}
	}
	return text, api.OK
}

// plainRead reads the instruction that a code begins with, and the rest of the code.
func plainRead(code []byte) (api.Instr, []byte, api.Errno) {
	x := api.Instr{Op: code[0]}
	code = code[1:]
	if x.Op == 0 || int(x.Op) > len(plainOps) {
		return x, nil, api.ErrOp
	}
	err := api.OK
	next := func(kind string) int64 {
		size := plainSize(kind)
		if err == api.OK && len(code) < size {
			err = api.ErrShort
		}
		if err != api.OK {
			return 0
		}
		n := int64(binary.LittleEndian.Uint64(append(slices.Clone(code[:size]), make([]byte, 8)...)))
		if kind[0] == 's' {
			n = n << (64 - 8*size) >> (64 - 8*size)
		}
		if !plainMay(kind, n) {
			err = api.ErrOp
		}
		code = code[size:]
		return n
	}
	if x.Op == api.OpSwitch {
		x.A = next("w1")
		for n := next("u2"); n > 0 && err == api.OK; n-- {
			a := api.Arm{Value: next("s8")}
			if err == api.OK && !plainMay([]string{"s1", "s4", "s8"}[x.A-1], a.Value) {
				err = api.ErrOp
			}
			a.To = int(next("u4"))
			x.Arms = append(x.Arms, a)
		}
		x.B = next("u4")
		return x, code, err
	}
	_, kinds := plainOp(x.Op)
	for i, kind := range kinds {
		*[]*int64{&x.A, &x.B}[i] = next(kind)
	}
	return x, code, err
}

func plainLines(code []byte) ([]api.Line, api.Errno) {
	if len(code) > 65536 {
		return nil, api.ErrLimit
	}
	var list []api.Instr
	var places []int64
	for rest := code; len(rest) > 0; {
		places = append(places, int64(len(code)-len(rest)))
		x, behind, err := plainRead(rest)
		if err != api.OK {
			return nil, err
		}
		list, rest = append(list, x), behind
	}
	places = append(places, int64(len(code)))
	for i, x := range list {
		list[i] = plainPut(x, func(to int64) int64 { return int64(slices.Index(places, to)) })
		if slices.Contains(plainTold(list[i]), -1) {
			return nil, api.ErrJump
		}
	}
	return plainLabelled(list), api.OK
}

// plainSame holds lines against each other by how they are told: a list that is not there and an empty one are told alike.
func plainSame(a, b []api.Line) bool { return fmt.Sprint(a) == fmt.Sprint(b) }
