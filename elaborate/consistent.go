package elaborate

import (
	"wireloom/api"
	"wireloom/bits"
)

const (
	mostN        = 1000000 // of a number of a source file, and its negative the least one
	mostArgument = 64
)

// areArguments reports whether parameters may have these values.
func areArguments(values []int) bool {
	for _, v := range values {
		if v < 0 || v > mostArgument {
			return false
		}
	}
	return true
}

// setValues gives the parameters of an instance their values, which are args for the top one.
func (i *instance) setValues(args []int) {
	if i.around != nil {
		args = nil
		for _, n := range i.item.Args {
			args = append(args, i.around.value(n))
		}
		require(areArguments(args), api.ErrCircuit)
	}
	i.values = map[string]int{}
	for k, p := range i.Params {
		i.values[p] = args[k]
	}
}

// value returns the value of a number; it gives up if its N is out of range.
func (i *instance) value(n api.Num) int {
	require(n.N >= -mostN && n.N <= mostN, api.ErrCircuit)
	return n.N + i.values[n.Param]
}

// numbers returns the values of those numbers that an expression uses, and 0 for the other ones.
func (i *instance) numbers(e api.Expr) (k, w int) {
	switch e.Op {
	case api.EConst, api.ESlice:
		return i.value(e.K), i.value(e.W)
	case api.EExt:
		return 0, i.value(e.W)
	}
	return 0, 0
}

// widthOf returns the width of what a name refers to.
func (i *instance) widthOf(name string) int {
	return i.value(i.named(name).Width)
}

// requireConsistent gives up unless an instance is consistent, and its ports are as wide as what they are bound to.
func (i *instance) requireConsistent() {
	widths := newWidthFinder(func(e api.Expr, args []int) int {
		switch e.Op {
		case api.ERef:
			return i.widthOf(e.Name)
		case api.EMem:
			return given(isWidth(args[0]), i.widthOf(e.Name))
		}
		k, w := i.numbers(e)
		return resultWidth(e.Op, args, k, w)
	})
	for _, item := range i.Items {
		require(i.isConsistent(item, widths), api.ErrCircuit)
	}
	for _, b := range i.item.Ports {
		require(i.widthOf(b.Port) == i.around.widthOf(b.Chan), api.ErrCircuit)
	}
}

// isConsistent says whether an item is as an instance needs it, but for what it says of other instances.
func (i *instance) isConsistent(item api.Item, widths *widthFinder) bool {
	switch item.Kind {
	case api.ITake:
		return widths.of(item.A) == 1
	case api.IPut:
		return widths.of(item.A) == 1 && widths.of(item.B) == i.widthOf(item.Name)
	case api.IInst:
		return true
	}
	w := i.value(item.Width)
	if !isWidth(w) {
		return false
	}
	switch item.Kind {
	case api.IChan:
		return isCap(i.value(item.Depth))
	case api.IReg:
		return isValue(i.value(item.Init), w) && widths.of(item.A) == w
	case api.IWire:
		return widths.of(item.A) == w
	case api.IMem:
		return isSize(i.value(item.Depth)) && widths.of(item.A) == 1 && isWidth(widths.of(item.B)) && widths.of(item.C) == w
	}
	return true
}

// isWidth reports whether a value may have w bits.
func isWidth(w int) bool {
	return w >= 1 && w <= api.MaxWidth
}

// isValue reports whether v is a value of the width w.
func isValue(v, w int) bool {
	return v >= 0 && v <= bits.Mask(w)
}

// isCap reports whether a channel may have room for n words.
func isCap(n int) bool {
	return n >= 1 && n <= api.MaxQueue
}

// isSize reports whether a memory may have n words.
func isSize(n int) bool {
	return n == 1 || n == 2 || n == 4 || n == api.MaxWords
}
