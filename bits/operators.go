package bits

import "wireloom/api"

// operator is what the operations with an operator have in common.
type operator struct {
	arguments int
	width     func(o operation) int // of the result; not a width unless the operation is valid
	value     func(o operation, v []int) int
}

// operators returns the table of the operators.
func operators() [api.EExt + 1]operator {
	return [...]operator{
		api.EConst: {0, constantWidth, func(o operation, v []int) int { return o.k }},
		api.ENot:   {1, commonWidth, func(o operation, v []int) int { return v[0] ^ Mask(o.widths[0]) }},
		api.EAnd:   {2, commonWidth, func(o operation, v []int) int { return v[0] & v[1] }},
		api.EOr:    {2, commonWidth, func(o operation, v []int) int { return v[0] | v[1] }},
		api.EXor:   {2, commonWidth, func(o operation, v []int) int { return v[0] ^ v[1] }},
		api.EAdd:   {2, commonWidth, func(o operation, v []int) int { return (v[0] + v[1]) & Mask(o.widths[0]) }},
		api.ESub:   {2, commonWidth, func(o operation, v []int) int { return (v[0] - v[1]) & Mask(o.widths[0]) }},
		api.EEq:    {2, comparedWidth, func(o operation, v []int) int { return truth(v[0] == v[1]) }},
		api.ELt:    {2, comparedWidth, func(o operation, v []int) int { return truth(v[0] < v[1]) }},
		api.EMux:   {3, chosenWidth, func(o operation, v []int) int { return chosen(v[0] == 1, v[1], v[2]) }},
		api.ECat:   {2, joinedWidth, func(o operation, v []int) int { return v[0]<<o.widths[1] | v[1] }},
		api.ESlice: {1, slicedWidth, func(o operation, v []int) int { return v[0] >> o.k & Mask(o.w) }},
		api.EExt:   {1, extendedWidth, func(o operation, v []int) int { return v[0] }},
	}
}

// truth returns 1 for true and 0 for false.
func truth(b bool) int {
	return chosen(b, 1, 0)
}

// chosen returns the first one of two values, or the second one.
func chosen(first bool, a, b int) int {
	if first {
		return a
	}
	return b
}

func constantWidth(o operation) int {
	if !isValue(o.k, o.w) {
		return 0
	}
	return o.w
}

// commonWidth returns the width that all arguments have.
func commonWidth(o operation) int {
	for _, w := range o.widths {
		if w != o.widths[0] {
			return 0
		}
	}
	return o.widths[0]
}

func comparedWidth(o operation) int {
	if commonWidth(o) == 0 {
		return 0
	}
	return 1
}

func chosenWidth(o operation) int {
	if o.widths[0] != 1 || o.widths[1] != o.widths[2] {
		return 0
	}
	return o.widths[1]
}

func joinedWidth(o operation) int {
	return o.widths[0] + o.widths[1]
}

func slicedWidth(o operation) int {
	// The sum of k and w can be too large for an int.
	if o.k < 0 || o.k > o.widths[0]-o.w {
		return 0
	}
	return o.w
}

func extendedWidth(o operation) int {
	if o.w < o.widths[0] {
		return 0
	}
	return o.w
}
