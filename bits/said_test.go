package bits_test

import (
	"math"
	"math/rand/v2"
	"slices"
	"strings"
	"testing"

	"wireloom/api"
	"wireloom/bits"
)

func source() *rand.Rand { return rand.New(rand.NewPCG(7, 54)) }

// Operators by the numbers that they use.
var (
	operators = []int{api.EConst, api.ENot, api.EAnd, api.EOr, api.EXor, api.EAdd, api.ESub, api.EEq, api.ELt, api.EMux, api.ECat, api.ESlice, api.EExt}
	useK      = []int{api.EConst, api.ESlice}
	useW      = []int{api.EConst, api.ESlice, api.EExt}
)

// far is numbers that are no widths, and whose sums and powers do not fit.
var far = []int{math.MinInt, math.MinInt + 1, -1 << 32, -256, -9, 63, 64, 65, 256, 257, 1 << 32, 1<<32 + 1, 1 << 62, math.MaxInt - 1, math.MaxInt}

// operation is an operation with the numbers that it uses; the others are 0.
type operation struct {
	op, arguments int
	widths        [3]int
	k, w          int
}

func (o operation) list() []int { return o.widths[:o.arguments] }

// operationOf is the operation with these arguments, of which there are at most three.
func operationOf(op int, widths []int, k, w int) operation {
	o := operation{op: op, arguments: len(widths)}
	copy(o.widths[:], widths)
	if slices.Contains(useK, op) {
		o.k = k
	}
	if slices.Contains(useW, op) {
		o.w = w
	}
	return o
}

// power is 2^n, for n from 0 to 62.
func power(n int) int {
	p := 1
	for range n {
		p *= 2
	}
	return p
}

// validAsSaid is the table of the chapter, line by line: all valid operations with the widths of their results.
func validAsSaid() map[operation]int {
	all := map[operation]int{}
	for n := 1; n <= 8; n++ {
		for k := range power(n) {
			all[operationOf(api.EConst, nil, k, n)] = n
		}
		all[operationOf(api.ENot, []int{n}, 0, 0)] = n
		for _, op := range []int{api.EAnd, api.EOr, api.EXor, api.EAdd, api.ESub} {
			all[operationOf(op, []int{n, n}, 0, 0)] = n
		}
		all[operationOf(api.EEq, []int{n, n}, 0, 0)] = 1
		all[operationOf(api.ELt, []int{n, n}, 0, 0)] = 1
		all[operationOf(api.EMux, []int{1, n, n}, 0, 0)] = n
		for m := 1; n+m <= 8; m++ {
			all[operationOf(api.ECat, []int{n, m}, 0, 0)] = n + m
		}
		for k := range n {
			for w := 1; k+w <= n; w++ {
				all[operationOf(api.ESlice, []int{n}, k, w)] = w
			}
		}
		for w := n; w <= 8; w++ {
			all[operationOf(api.EExt, []int{n}, 0, w)] = w
		}
	}
	return all
}

// text is the bits of a value, the highest one first.
func text(v, w int) string {
	s := ""
	for range w {
		s = string(rune('0'+v%2)) + s
		v /= 2
	}
	return s
}

// number is the value with these bits, the highest one first.
func number(s string) int {
	v := 0
	for _, c := range s {
		v = 2*v + int(c-'0')
	}
	return v
}

// bitwise combines two values bit by bit: is11 and is10 are the results for two bits that are 1, and for bits of which only one is.
func bitwise(a, b string, is11, is10 string) string {
	s := ""
	for i := range a {
		switch {
		case a[i] == '1' && b[i] == '1':
			s += is11
		case a[i] == '1' || b[i] == '1':
			s += is10
		default:
			s += "0"
		}
	}
	return s
}

func one(b bool) int {
	if b {
		return 1
	}
	return 0
}

// valueAsSaid is the value of a valid operation, by the texts of the arguments and by remainders.
func valueAsSaid(o operation, args []int) int {
	var s []string
	for i, v := range args {
		s = append(s, text(v, o.widths[i]))
	}
	modulus := power(o.widths[0])
	switch o.op {
	case api.EConst:
		return o.k
	case api.ENot:
		return number(strings.NewReplacer("0", "1", "1", "0").Replace(s[0]))
	case api.EAnd:
		return number(bitwise(s[0], s[1], "1", "0"))
	case api.EOr:
		return number(bitwise(s[0], s[1], "1", "1"))
	case api.EXor:
		return number(bitwise(s[0], s[1], "0", "1"))
	case api.EAdd:
		return (args[0] + args[1]) % modulus
	case api.ESub:
		return (args[0] + modulus - args[1]) % modulus
	case api.EEq:
		return one(s[0] == s[1])
	case api.ELt:
		return one(s[0] < s[1])
	case api.EMux:
		if s[0] == "1" {
			return args[1]
		}
		return args[2]
	case api.ECat:
		return number(s[0] + s[1])
	case api.ESlice:
		high := o.widths[0] - o.k
		return number(s[0][high-o.w : high])
	}
	return number(strings.Repeat("0", o.w-o.widths[0]) + s[0])
}

// eachArgs calls f for all values of these widths; f must not keep them.
func eachArgs(widths []int, f func(args []int)) {
	args := make([]int, len(widths))
	var choose func(i int)
	choose = func(i int) {
		if i == len(widths) {
			f(args)
			return
		}
		for v := range power(widths[i]) {
			args[i] = v
			choose(i + 1)
		}
	}
	choose(0)
}

// eachList calls f for all lists of at most three of some numbers; f must not keep them.
func eachList(numbers []int, f func(l []int)) {
	var extend func(l []int)
	extend = func(l []int) {
		f(l)
		if len(l) == 3 {
			return
		}
		for _, n := range numbers {
			extend(append(slices.Clip(l), n))
		}
	}
	extend(nil)
}

// checkWidth compares both results of Width.
func checkWidth(t *testing.T, op int, widths []int, k, w, want int) {
	t.Helper()
	e := api.OK
	if want == 0 {
		e = api.ErrArg
	}
	if got, gotE := bits.Width(op, widths, [2]int{k, w}); got != want || gotE != e {
		t.Errorf("Width of the operator %d, widths %v, k %d, w %d: %d, %d, want %d, %d", op, widths, k, w, got, gotE, want, e)
	}
}

// checkApply compares both results of Apply, which is not refused.
func checkApply(t *testing.T, op int, widths, args []int, k, w, want int) {
	t.Helper()
	if got, e := bits.Apply(op, widths, args, []int{k, w}); got != want || e != api.OK {
		t.Errorf("Apply of the operator %d, widths %v, values %v, k %d, w %d: %d, %d, want %d", op, widths, args, k, w, got, e, want)
	}
}

// checkRefused says that Apply is ErrArg.
func checkRefused(t *testing.T, op int, widths, args, num []int) {
	t.Helper()
	if got, e := bits.Apply(op, widths, args, num); got != 0 || e != api.ErrArg {
		t.Errorf("Apply of the operator %d, widths %v, values %v, numbers %v: %d, %d", op, widths, args, num, got, e)
	}
}
