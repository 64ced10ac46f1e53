package bits_test

import (
	"slices"
	"testing"

	"wireloom/api"
	"wireloom/bits"
)

// calc applies operators to values of one width.
type calc struct {
	t *testing.T
	w int
}

func apply(t *testing.T, op int, widths, args []int, num ...int) int {
	t.Helper()
	v, e := bits.Apply(op, widths, args, append(num, 0, 0)[:2])
	if e != api.OK {
		t.Fatalf("Apply of the operator %d, widths %v, values %v, numbers %v: error %d", op, widths, args, num, e)
	}
	return v
}

func (c calc) two(op, a, b int) int { return apply(c.t, op, []int{c.w, c.w}, []int{a, b}) }
func (c calc) add(a, b int) int     { return c.two(api.EAdd, a, b) }
func (c calc) sub(a, b int) int     { return c.two(api.ESub, a, b) }
func (c calc) and(a, b int) int     { return c.two(api.EAnd, a, b) }
func (c calc) or(a, b int) int      { return c.two(api.EOr, a, b) }
func (c calc) xor(a, b int) int     { return c.two(api.EXor, a, b) }
func (c calc) equal(a, b int) bool  { return c.two(api.EEq, a, b) == 1 }
func (c calc) less(a, b int) bool   { return c.two(api.ELt, a, b) == 1 }
func (c calc) not(a int) int        { return apply(c.t, api.ENot, []int{c.w}, []int{a}) }
func (c calc) extend(a, w int) int  { return apply(c.t, api.EExt, []int{c.w}, []int{a}, 0, w) }

func (c calc) slice(a, k, w int) int {
	return apply(c.t, api.ESlice, []int{c.w}, []int{a}, k, w)
}

// join concatenates a and b, a value of the width w.
func (c calc) join(a, b, w int) int {
	return apply(c.t, api.ECat, []int{c.w, w}, []int{a, b})
}

// eachPair calls f for all pairs of values of all widths.
func eachPair(t *testing.T, f func(c calc, a, b int)) {
	for w := 1; w <= 8; w++ {
		eachArgs([]int{w, w}, func(args []int) { f(calc{t, w}, args[0], args[1]) })
	}
}

func TestP7_2Range(t *testing.T) {
	for o := range validAsSaid() {
		num := [2]int{o.k, o.w}
		w, e := bits.Width(o.op, o.list(), num)
		if w < 1 || w > 8 || e != api.OK {
			t.Errorf("%v: width %d, %d", o, w, e)
		}
		eachArgs(o.list(), func(args []int) {
			if v := apply(t, o.op, o.list(), args, num[:]...); v < 0 || v > bits.Mask(w) {
				t.Errorf("%v of %v: %d, width %d", o, args, v, w)
			}
		})
	}
}

func TestP7_3Inverse(t *testing.T) {
	eachPair(t, func(c calc, a, b int) {
		if got := c.sub(c.add(a, b), b); got != a {
			t.Errorf("width %d: %d + %d - %d is %d", c.w, a, b, b, got)
		}
		if got := c.add(c.sub(a, b), b); got != a {
			t.Errorf("width %d: %d - %d + %d is %d", c.w, a, b, b, got)
		}
	})
}

func TestP7_3Complement(t *testing.T) {
	eachPair(t, func(c calc, a, b int) {
		if got, want := c.add(c.add(a, c.not(b)), 1), c.sub(a, b); got != want {
			t.Errorf("width %d: %d + not %d + 1 is %d, their difference %d", c.w, a, b, got, want)
		}
	})
}

func TestP7_3DeMorgan(t *testing.T) {
	eachPair(t, func(c calc, a, b int) {
		if got, want := c.not(c.and(a, b)), c.or(c.not(a), c.not(b)); got != want {
			t.Errorf("width %d, %d and %d: not and is %d, or of complements %d", c.w, a, b, got, want)
		}
		if got, want := c.not(c.or(a, b)), c.and(c.not(a), c.not(b)); got != want {
			t.Errorf("width %d, %d and %d: not or is %d, and of complements %d", c.w, a, b, got, want)
		}
		if c.not(c.not(a)) != a {
			t.Errorf("width %d: not not %d is %d", c.w, a, c.not(c.not(a)))
		}
	})
}

// A sum is EXor of its arguments and the carries, which are EAnd of them, one position higher.
func TestP7_3WithoutCarries(t *testing.T) {
	eachPair(t, func(c calc, a, b int) {
		carries := c.and(a, b)
		if got, want := c.add(c.xor(a, b), c.add(carries, carries)), c.add(a, b); got != want {
			t.Errorf("width %d, %d and %d: with the carries %d, sum %d", c.w, a, b, got, want)
		}
		for k := range c.w {
			sum := calc{t, 1}.add(c.slice(a, k, 1), c.slice(b, k, 1))
			if got := c.slice(c.xor(a, b), k, 1); got != sum {
				t.Errorf("width %d, %d and %d: the bit %d of EXor is %d", c.w, a, b, k, got)
			}
		}
	})
}

func TestP7_4SlicesOfParts(t *testing.T) {
	for n := 1; n < 8; n++ {
		for m := 1; n+m <= 8; m++ {
			eachArgs([]int{n, m}, func(args []int) {
				whole := calc{t, n}.join(args[0], args[1], m)
				high, low := calc{t, n + m}.slice(whole, m, n), calc{t, n + m}.slice(whole, 0, m)
				if high != args[0] || low != args[1] {
					t.Errorf("widths %d and %d: %v are joined to %d, whose slices are %d and %d", n, m, args, whole, high, low)
				}
			})
		}
	}
}

func TestP7_4PartsOfSlices(t *testing.T) {
	for w := 2; w <= 8; w++ {
		c := calc{t, w}
		for v := range power(w) {
			for k := 1; k < w; k++ {
				if got := (calc{t, w - k}).join(c.slice(v, k, w-k), c.slice(v, 0, k), k); got != v {
					t.Errorf("width %d: the slices of %d at the border %d are joined to %d", w, v, k, got)
				}
			}
			single := c.slice(v, w-1, 1)
			for k := w - 2; k >= 0; k-- {
				single = calc{t, w - 1 - k}.join(single, c.slice(v, k, 1), 1)
			}
			if single != v {
				t.Errorf("width %d: the bits of %d are joined to %d", w, v, single)
			}
		}
	}
}

func TestP7_4Extended(t *testing.T) {
	for n := 1; n <= 8; n++ {
		for w := n; w <= 8; w++ {
			for v := range power(n) {
				long := calc{t, n}.extend(v, w)
				if got := (calc{t, w}).slice(long, 0, n); got != v {
					t.Errorf("%d of the width %d, extended to %d, is sliced to %d", v, n, w, got)
				}
				if w > n && (calc{t, w}).slice(long, n, w-n) != 0 {
					t.Errorf("%d of the width %d, extended to %d: %d", v, n, w, long)
				}
			}
		}
	}
}

func TestP7_5ExactlyOne(t *testing.T) {
	eachPair(t, func(c calc, a, b int) {
		if n := one(c.less(a, b)) + one(c.equal(a, b)) + one(c.less(b, a)); n != 1 {
			t.Errorf("width %d, %d and %d: %d of less, equal and greater hold", c.w, a, b, n)
		}
		if c.equal(a, b) != (a == b) {
			t.Errorf("width %d, %d and %d: equal", c.w, a, b)
		}
	})
}

func TestP7_5Borrow(t *testing.T) {
	eachPair(t, func(c calc, a, b int) {
		if c.w == 8 {
			return
		}
		long := calc{t, c.w + 1}
		difference := long.sub(c.extend(a, c.w+1), c.extend(b, c.w+1))
		if got := long.slice(difference, c.w, 1) == 1; got != c.less(a, b) {
			t.Errorf("width %d, %d and %d: borrow %t", c.w, a, b, got)
		}
	})
}

// bitByBit applies a truth table of an operator to each bit of two values: results is what it is for 0 and 0, 0 and 1, 1 and 0, 1 and 1.
func bitByBit(a, b, w int, results [4]bool) int {
	l, m := bits.Split(a, w), bits.Split(b, w)
	r := make([]bool, w)
	for i := range r {
		r[i] = results[2*one(l[i])+one(m[i])]
	}
	return bits.Join(r)
}

func TestP7_6BitByBit(t *testing.T) {
	const o, i = false, true
	eachPair(t, func(c calc, a, b int) {
		for _, x := range []struct {
			got     int
			results [4]bool
		}{
			{c.and(a, b), [4]bool{o, o, o, i}},
			{c.or(a, b), [4]bool{o, i, i, i}},
			{c.xor(a, b), [4]bool{o, i, i, o}},
			{c.not(a), [4]bool{i, i, o, o}},
		} {
			if want := bitByBit(a, b, c.w, x.results); x.got != want {
				t.Errorf("width %d, %d and %d: %d, bit by bit with %v %d", c.w, a, b, x.got, x.results, want)
			}
		}
	})
}

// The operators that move bits are computed by moving the elements of lists.
func TestP7_6MovedBits(t *testing.T) {
	for o := range validAsSaid() {
		if o.op != api.ECat && o.op != api.ESlice && o.op != api.EExt {
			continue
		}
		eachArgs(o.list(), func(args []int) {
			l := bits.Split(args[0], o.widths[0])
			switch o.op {
			case api.ECat:
				l = slices.Concat(bits.Split(args[1], o.widths[1]), l)
			case api.ESlice:
				l = l[o.k : o.k+o.w]
			case api.EExt:
				l = append(l, make([]bool, o.w-o.widths[0])...)
			}
			if got := apply(t, o.op, o.list(), args, o.k, o.w); got != bits.Join(l) {
				t.Errorf("%v of %v: %d, moved bit by bit %d", o, args, got, bits.Join(l))
			}
		})
	}
}

// A choice is made for each bit by itself.
func TestP7_6ChosenBits(t *testing.T) {
	eachPair(t, func(c calc, a, b int) {
		for choice := range 2 {
			got := apply(t, api.EMux, []int{1, c.w, c.w}, []int{choice, a, b})
			want := bits.Split(b, c.w)
			if choice == 1 {
				want = bits.Split(a, c.w)
			}
			if !slices.Equal(bits.Split(got, c.w), want) {
				t.Errorf("width %d: chosen from %d and %d by %d: %d", c.w, a, b, choice, got)
			}
		}
	})
}

func TestG4ArgumentsStay(t *testing.T) {
	for o := range validAsSaid() {
		for _, spoil := range []int{0, 1, 9} {
			widths, num := make([]int, o.arguments, 8), []int{o.k, o.w}
			copy(widths, o.list())
			args := make([]int, o.arguments, 8)
			for i := range args {
				args[i] = spoil * power(widths[i]) / 2
			}
			room := [][]int{widths[:8], args[:8], num}
			before := [][]int{slices.Clone(room[0]), slices.Clone(room[1]), slices.Clone(room[2])}
			bits.Width(o.op, widths, [2]int(num))
			bits.Apply(o.op, widths, args, num)
			if !slices.EqualFunc(room, before, slices.Equal[[]int]) {
				t.Errorf("%v: %v, but before %v", o, room, before)
			}
		}
	}
	r := source()
	for n := range 100 {
		l := someBits(r, n)
		before := slices.Clone(l)
		bits.Join(l)
		if !slices.Equal(l, before) {
			t.Errorf("Join of %d bits changed them", n)
		}
	}
}

// A list of bits belongs to the caller alone.
func TestG4SplitIsNew(t *testing.T) {
	for w := range 63 {
		l := bits.Split(-1, w)
		clear(l)
		if got := bits.Split(-1, w); slices.Contains(got, false) || len(got) != w {
			t.Errorf("Split(-1, %d), the second time: %v", w, got)
		}
	}
}
