package check

import (
	"iter"
	"slices"

	"wireloom/api"
)

// arguments has the number of arguments that each operator takes.
var arguments = [...]int{
	api.EConst: 0, api.ENot: 1, api.EAnd: 2, api.EOr: 2, api.EXor: 2, api.EAdd: 2, api.ESub: 2, api.EEq: 2,
	api.ELt: 2, api.EMux: 3, api.ECat: 2, api.ESlice: 1, api.EExt: 1, api.ERef: 0, api.EMem: 1,
}

// usedExprs yields the expressions that an item uses, and all expressions within them.
func usedExprs(item api.Item) iter.Seq[api.Expr] {
	switch item.Kind {
	case api.IReg, api.IWire, api.ITake:
		return within([]api.Expr{item.A})
	case api.IPut:
		return within([]api.Expr{item.A, item.B})
	case api.IMem:
		return within([]api.Expr{item.A, item.B, item.C})
	}
	return within(nil)
}

// within yields the elements of a list, and all expressions within them.
func within(list []api.Expr) iter.Seq[api.Expr] {
	return func(yield func(api.Expr) bool) {
		// Lists of arguments can share memory, so that there are many more ways to an expression than expressions, or ways without an end.
		seen := map[*api.Expr]bool{}
		left := [][]api.Expr{list}
		for len(left) > 0 {
			last := left[len(left)-1]
			left = left[:len(left)-1]
			for i, e := range last {
				if seen[&last[i]] {
					continue
				}
				seen[&last[i]] = true
				left = append(left, e.Args)
				if !yield(e) {
					return
				}
			}
		}
	}
}

// usedNums returns the numbers that an item uses.
func usedNums(item api.Item) []api.Num {
	var nums []api.Num
	switch item.Kind {
	case api.IIn, api.IOut, api.IWire:
		nums = append(nums, item.Width)
	case api.IChan, api.IMem:
		nums = append(nums, item.Width, item.Depth)
	case api.IReg:
		nums = append(nums, item.Width, item.Init)
	case api.IInst:
		nums = slices.Clone(item.Args)
	}
	for e := range usedExprs(item) {
		switch e.Op {
		case api.EConst, api.ESlice:
			nums = append(nums, e.K, e.W)
		case api.EExt:
			nums = append(nums, e.W)
		}
	}
	return nums
}
