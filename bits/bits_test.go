package bits_test

import (
	"math"
	"slices"
	"testing"

	"wireloom/api"
	"wireloom/bits"
)

func TestP7_1Examples(t *testing.T) {
	checkApply(t, api.EAdd, []int{4, 4}, []int{9, 8}, 0, 0, 1)
	checkApply(t, api.ESub, []int{4, 4}, []int{3, 5}, 0, 0, 14)
	checkApply(t, api.ELt, []int{4, 4}, []int{3, 5}, 0, 0, 1)
	checkApply(t, api.ECat, []int{2, 3}, []int{2, 5}, 0, 0, 21)
	checkWidth(t, api.ECat, []int{2, 3}, 0, 0, 5)
	checkApply(t, api.ESlice, []int{5}, []int{21}, 3, 2, 2)
	checkApply(t, api.EExt, []int{3}, []int{5}, 0, 8, 5)
	if m := bits.Mask(3); m != 7 {
		t.Errorf("Mask(3): %d", m)
	}
	if l := bits.Split(6, 4); !slices.Equal(l, []bool{false, true, true, false}) {
		t.Errorf("Split(6, 4): %v", l)
	}
}

// These widths and values were computed by hand.
func TestP7_1Known(t *testing.T) {
	for _, c := range []struct {
		op, k, w     int
		widths, args []int
		width, value int
	}{
		{api.EConst, 0, 1, nil, nil, 1, 0},
		{api.EConst, 255, 8, nil, nil, 8, 255},
		{api.ENot, 0, 0, []int{1}, []int{0}, 1, 1},
		{api.ENot, 0, 0, []int{8}, []int{0xa5}, 8, 0x5a},
		{api.EAnd, 0, 0, []int{8, 8}, []int{0xcc, 0xaa}, 8, 0x88},
		{api.EOr, 0, 0, []int{8, 8}, []int{0xcc, 0xaa}, 8, 0xee},
		{api.EXor, 0, 0, []int{8, 8}, []int{0xcc, 0xaa}, 8, 0x66},
		{api.EAdd, 0, 0, []int{8, 8}, []int{255, 1}, 8, 0},
		{api.EAdd, 0, 0, []int{1, 1}, []int{1, 1}, 1, 0},
		{api.ESub, 0, 0, []int{8, 8}, []int{0, 255}, 8, 1},
		{api.ESub, 0, 0, []int{1, 1}, []int{0, 1}, 1, 1},
		{api.ESub, 0, 0, []int{5, 5}, []int{19, 7}, 5, 12},
		{api.EEq, 0, 0, []int{8, 8}, []int{200, 200}, 1, 1},
		{api.EEq, 0, 0, []int{8, 8}, []int{200, 72}, 1, 0},
		{api.ELt, 0, 0, []int{8, 8}, []int{127, 128}, 1, 1},
		{api.ELt, 0, 0, []int{8, 8}, []int{128, 127}, 1, 0},
		{api.ELt, 0, 0, []int{8, 8}, []int{255, 255}, 1, 0},
		{api.EMux, 0, 0, []int{1, 8, 8}, []int{1, 17, 34}, 8, 17},
		{api.EMux, 0, 0, []int{1, 8, 8}, []int{0, 17, 34}, 8, 34},
		{api.EMux, 0, 0, []int{1, 1, 1}, []int{0, 0, 1}, 1, 1},
		{api.ECat, 0, 0, []int{1, 7}, []int{1, 2}, 8, 130},
		{api.ECat, 0, 0, []int{7, 1}, []int{1, 1}, 8, 3},
		{api.ESlice, 7, 1, []int{8}, []int{128}, 1, 1},
		{api.ESlice, 1, 6, []int{8}, []int{0xff}, 6, 0x3f},
		{api.ESlice, 0, 8, []int{8}, []int{0x9c}, 8, 0x9c},
		{api.EExt, 0, 8, []int{8}, []int{255}, 8, 255},
		{api.EExt, 0, 2, []int{1}, []int{1}, 2, 1},
	} {
		checkWidth(t, c.op, c.widths, c.k, c.w, c.width)
		checkApply(t, c.op, c.widths, c.args, c.k, c.w, c.value)
	}
}

// All operators and widths around the valid ones, with k and w around them.
func TestP7_1WidthAsSaid(t *testing.T) {
	all, valid := validAsSaid(), 0
	numbers := [][2]int{{0, 0}, {0, 1}, {1, 0}, {-1, 1}, {0, 8}, {1, 8}, {0, 9}, {0, -1}, {255, 8}, {256, 8}, {3, 4}, {8, 0}, {9, -1}}
	for op := -2; op <= api.EData+2; op++ {
		eachList([]int{-1, 0, 1, 2, 3, 4, 5, 6, 7, 8, 9, 10}, func(widths []int) {
			for _, n := range numbers {
				want := all[operationOf(op, widths, n[0], n[1])]
				checkWidth(t, op, widths, n[0], n[1], want)
				valid += one(want > 0)
			}
		})
	}
	if valid < 1000 {
		t.Errorf("only %d valid operations", valid)
	}
}

// All k and w around the valid ones, for the operators that use them.
func TestP7_1WidthOfNumbers(t *testing.T) {
	all, valid := validAsSaid(), map[operation]bool{}
	for _, op := range useW {
		for _, widths := range [][]int{nil, {0}, {1}, {2}, {3}, {4}, {5}, {6}, {7}, {8}, {9}, {10}} {
			for k := -3; k <= 258; k++ {
				for w := -2; w <= 11; w++ {
					o := operationOf(op, widths, k, w)
					checkWidth(t, op, widths, k, w, all[o])
					if all[o] > 0 {
						valid[o] = true
					}
				}
			}
		}
	}
	if len(valid) != 510+120+36 {
		t.Errorf("%d valid operations", len(valid))
	}
}

func TestP7_1WidthFar(t *testing.T) {
	all := validAsSaid()
	near := []int{0, 1, 3, 8}
	for _, op := range slices.Concat(operators, far) {
		for _, n := range far {
			for _, m := range slices.Concat(near, far) {
				for _, widths := range [][]int{nil, {1}, {3}, {8}, {3, 3}, {1, 3, 3}, {n}, {n, n}, {n, m}, {m, n}, {n, -n}, {1, n, n}, {n, 3, 3}, {1, n, 3}, {1, 3, n}} {
					for _, num := range [][2]int{{n, m}, {m, n}, {n, -n}, {n, 1 - n}, {n, n}} {
						checkWidth(t, op, widths, num[0], num[1], all[operationOf(op, widths, num[0], num[1])])
					}
				}
			}
		}
	}
}

// The numbers that an operator does not use do not matter.
func TestP7_1UnusedNumbers(t *testing.T) {
	for o, width := range validAsSaid() {
		args := make([]int, o.arguments)
		for i := range args {
			args[i] = power(o.widths[i]) - 1
		}
		value := valueAsSaid(o, args)
		for _, n := range slices.Concat([]int{-1, 0, 1, 9}, far) {
			k, w := o.k, o.w
			if !slices.Contains(useK, o.op) {
				k = n
			}
			if !slices.Contains(useW, o.op) {
				w = n
			}
			checkWidth(t, o.op, o.list(), k, w, width)
			checkApply(t, o.op, o.list(), args, k, w, value)
		}
	}
}

// More arguments than any operator has.
func TestP7_1ManyArguments(t *testing.T) {
	for _, op := range operators {
		for n := 4; n < 300; n += 7 {
			ones := slices.Repeat([]int{1}, n)
			checkWidth(t, op, ones, 0, 1, 0)
			checkRefused(t, op, ones, ones, []int{0, 1})
			checkRefused(t, op, ones, ones[:2], []int{0, 1})
			checkRefused(t, op, ones[:2], ones, []int{0, 1})
		}
	}
}

// All valid operations on all values.
func TestP7_1ApplyAsSaid(t *testing.T) {
	count := 0
	for o := range validAsSaid() {
		num := []int{o.k, o.w}
		eachArgs(o.list(), func(args []int) {
			count++
			if got, e := bits.Apply(o.op, o.list(), args, num); got != valueAsSaid(o, args) || e != api.OK {
				t.Errorf("%v of %v: %d, %d, want %d", o, args, got, e, valueAsSaid(o, args))
			}
		})
	}
	if count < 750000 {
		t.Errorf("only %d values", count)
	}
}

func TestP7_1ApplyRefusedOperation(t *testing.T) {
	all, refused := validAsSaid(), 0
	for op := -2; op <= api.EData+2; op++ {
		eachList([]int{-1, 0, 1, 2, 8, 9}, func(widths []int) {
			for _, num := range [][]int{{0, 0}, {0, 1}, {2, 1}, {-1, 1}, {0, 9}, {1, 8}, {1 << 62, 2}, {math.MaxInt, 1}} {
				if all[operationOf(op, widths, num[0], num[1])] > 0 {
					continue
				}
				refused++
				checkRefused(t, op, widths, make([]int, len(widths)), num)
				checkRefused(t, op, widths, []int{0, 0}, num)
				checkRefused(t, op, widths, nil, num)
			}
		})
	}
	if refused < 10000 {
		t.Errorf("only %d operations", refused)
	}
}

// Arguments of which one is not a value of its width.
func TestP7_1ApplyRefusedValue(t *testing.T) {
	for o := range validAsSaid() {
		for i, w := range o.list() {
			for _, v := range slices.Concat([]int{-1, -2, power(w), power(w) + 1, -power(w), 2 * power(w)}, far) {
				if v >= 0 && v < power(w) {
					continue
				}
				args := make([]int, o.arguments)
				args[i] = v
				checkRefused(t, o.op, o.list(), args, []int{o.k, o.w})
			}
		}
	}
}

func TestP7_1ApplyRefusedNumberOfValues(t *testing.T) {
	for o := range validAsSaid() {
		for n := range 6 {
			args := make([]int, n)
			if n == o.arguments {
				checkApply(t, o.op, o.list(), args, o.k, o.w, valueAsSaid(o, args))
			} else {
				checkRefused(t, o.op, o.list(), args, []int{o.k, o.w})
			}
		}
	}
}

func TestP7_1ApplyRefusedNumbers(t *testing.T) {
	for o := range validAsSaid() {
		args := make([]int, o.arguments)
		for _, num := range [][]int{nil, {}, {o.k}, {o.w}, {o.k, o.w, 0}, {o.k, o.w, 0, 0}, {0, o.k, o.w}} {
			checkRefused(t, o.op, o.list(), args, num)
		}
	}
}
