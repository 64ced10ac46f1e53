package elaborate

import (
	"wireloom/api"
	"wireloom/bits"
)

// widthFinder finds the widths of expressions; 0 stands for that of an expression which has none.
type widthFinder struct {
	rule  func(e api.Expr, args []int) int // the width of an expression whose arguments have these widths
	known map[*api.Expr]int
}

func newWidthFinder(rule func(e api.Expr, args []int) int) *widthFinder {
	return &widthFinder{rule, map[*api.Expr]int{}}
}

// of returns the width of an expression.
func (f *widthFinder) of(e api.Expr) int {
	var args []int
	for k := range e.Args {
		args = append(args, f.at(&e.Args[k]))
	}
	return f.rule(e, args)
}

// at returns the width of an argument. Arguments can share memory, so that there are many more ways to an expression than expressions, or a way back to it, which leaves it without a width.
func (f *widthFinder) at(e *api.Expr) int {
	w, known := f.known[e]
	if !known {
		f.known[e] = 0
		w = f.of(*e)
		f.known[e] = w
	}
	return w
}

// resultWidth returns the width of an operator of layer 7 for arguments of these widths.
func resultWidth(op int, args []int, k, w int) int {
	width, e := bits.Width(op, args, [2]int{k, w})
	return given(e == api.OK, width)
}

// given returns a width if a condition holds, and 0 otherwise.
func given(holds bool, w int) int {
	if !holds {
		return 0
	}
	return w
}
