package bits

import "iter"

// numberBits is how many bits of a number are masked, split off or joined.
const numberBits = 62

// Mask returns the number whose w lowest bits are 1.
func Mask(w int) int {
	if w < 0 || w > numberBits {
		return 0
	}
	return 1<<w - 1
}

// Split returns the w lowest bits of v, the lowest one first.
func Split(v, w int) []bool {
	if w < 0 || w > numberBits {
		return nil
	}
	l := make([]bool, w)
	for i, bit := range lowest(v, w) {
		l[i] = bit
	}
	return l
}

// lowest yields the w lowest bits of v, with their positions.
func lowest(v, w int) iter.Seq2[int, bool] {
	return func(yield func(int, bool) bool) {
		for i := range w {
			if !yield(i, v>>i&1 == 1) {
				return
			}
		}
	}
}

// Join returns the number with these bits, the lowest one first.
func Join(l []bool) int {
	v := 0
	for i, bit := range l[:min(len(l), numberBits)] {
		v |= truth(bit) << i
	}
	return v
}
