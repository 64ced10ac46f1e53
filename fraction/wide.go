package fraction

import (
	"math/bits"

	"wireloom/api"
)

// most is the greatest denominator, and the greatest size of a numerator.
const most = 1 << 62

// wide is an integer of 128 bits in two's complement, as its two halves.
type wide struct{ high, low uint64 }

// product returns the product of two integers.
func product(a, b int) wide {
	high, low := bits.Mul64(size(a), size(b))
	w := wide{high, low}
	if (a < 0) != (b < 0) {
		return w.negated()
	}
	return w
}

// size returns the absolute value of an integer.
func size(n int) uint64 {
	if n < 0 {
		return -uint64(n)
	}
	return uint64(n)
}

// negative reports whether w is less than 0.
func (w wide) negative() bool { return w.high>>63 == 1 }

// negated returns -w.
func (w wide) negated() wide {
	return wide{^w.high, ^w.low}.plus(wide{0, 1})
}

// size returns the absolute value of w.
func (w wide) size() wide {
	if w.negative() {
		return w.negated()
	}
	return w
}

// plus returns w + x.
func (w wide) plus(x wide) wide {
	low, carry := bits.Add64(w.low, x.low, 0)
	high, _ := bits.Add64(w.high, x.high, carry)
	return wide{high, low}
}

// over returns w divided by one of its divisors.
func (w wide) over(divisor uint64) wide {
	s := w.size()
	low, _ := bits.Div64(s.high%divisor, s.low, divisor)
	q := wide{s.high / divisor, low}
	if w.negative() {
		return q.negated()
	}
	return q
}

// modulo returns the remainder of the absolute value of w.
func (w wide) modulo(divisor uint64) uint64 {
	s := w.size()
	return bits.Rem64(s.high, s.low, divisor)
}

// fits reports whether w can be a numerator.
func (w wide) fits() bool {
	s := w.size()
	return s.high == 0 && s.low <= most
}

// narrow returns the fraction of two integers without a common divisor.
func narrow(n, d wide) (api.Frac, api.Errno) {
	if d.negative() {
		n, d = n.negated(), d.negated()
	}
	if !n.fits() || !d.fits() {
		return api.Frac{}, api.ErrBig
	}
	return api.Frac{N: int(n.low), D: int(d.low)}, api.OK
}

// gcd returns the greatest common divisor of numbers; 1 if all of them are 0, so that it always divides.
func gcd(numbers ...uint64) uint64 {
	var g uint64
	for _, n := range numbers {
		for n != 0 {
			g, n = n, g%n
		}
	}
	return max(g, 1)
}
