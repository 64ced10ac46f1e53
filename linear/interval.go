package linear

import (
	"wireloom/api"
	"wireloom/fraction"
)

// ValidInterval reports whether the bounds of an interval are valid and in order.
func ValidInterval(i api.Interval) bool {
	return fraction.Valid(i.Lo) && fraction.Valid(i.Hi) && fraction.Cmp(i.Lo, i.Hi) <= 0
}

// ValidBox reports whether the intervals of a box are valid.
func ValidBox(b api.Box) bool {
	return ValidInterval(b.T) && ValidInterval(b.V) && ValidInterval(b.A)
}

// Plus returns the interval from the sum of the lower bounds to that of the upper ones.
func Plus(i, j api.Interval) (api.Interval, api.Errno) {
	lo, e := fraction.Add(i.Lo, j.Lo)
	if e != api.OK {
		return api.Interval{}, e
	}
	hi, e := fraction.Add(i.Hi, j.Hi)
	if e != api.OK {
		return api.Interval{}, e
	}
	return api.Interval{Lo: lo, Hi: hi}, api.OK
}

// Hull returns the least interval that two intervals lie in.
func Hull(i, j api.Interval) api.Interval {
	return api.Interval{Lo: fraction.Min(i.Lo, j.Lo), Hi: fraction.Max(i.Hi, j.Hi)}
}

// Contains reports whether a number lies in an interval.
func Contains(i api.Interval, f api.Frac) bool {
	return fraction.Cmp(i.Lo, f) <= 0 && fraction.Cmp(f, i.Hi) <= 0
}

// Within reports whether the interval i lies in j.
func Within(i, j api.Interval) bool {
	return Contains(j, i.Lo) && Contains(j, i.Hi)
}

// Inside reports whether the box b lies in c.
func Inside(b, c api.Box) bool {
	return Within(b.T, c.T) && Within(b.V, c.V) && Within(b.A, c.A)
}
