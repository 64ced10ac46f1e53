package linear_test

import (
	"math"
	"math/big"
	"math/rand/v2"
	"testing"

	"wireloom/api"
	"wireloom/linear"
)

// most is the greatest denominator, and the greatest size of a numerator.
const most = 1 << 62

func f(n, d int) api.Frac { return api.Frac{N: n, D: d} }

func n(k int) api.Frac { return f(k, 1) }

func line(k, t, v, a api.Frac) api.Linear { return api.Linear{K: k, T: t, V: v, A: a} }

// whole returns the function of four integers.
func whole(k, t, v, a int) api.Linear { return line(n(k), n(t), n(v), n(a)) }

func between(lo, hi api.Frac) api.Interval { return api.Interval{Lo: lo, Hi: hi} }

func span(lo, hi int) api.Interval { return between(n(lo), n(hi)) }

func box(t, v, a api.Interval) api.Box { return api.Box{T: t, V: v, A: a} }

func point(t, v, a int) [3]api.Frac { return [3]api.Frac{n(t), n(v), n(a)} }

// parts returns the coefficients of a function, the constant first.
func parts(l api.Linear) [4]api.Frac { return [4]api.Frac{l.K, l.T, l.V, l.A} }

func made(c [4]api.Frac) api.Linear { return line(c[0], c[1], c[2], c[3]) }

func sides(b api.Box) [3]api.Interval { return [3]api.Interval{b.T, b.V, b.A} }

// number is a rational number that is computed with as long as it is representable; it is nil from then on.
type number struct{ r *big.Rat }

func exact(a api.Frac) number { return number{big.NewRat(int64(a.N), int64(a.D))} }

// kept returns the number of a result of the program.
func kept(a api.Frac, e api.Errno) number {
	if e != api.OK {
		return number{}
	}
	return exact(a)
}

func limited(r *big.Rat) number {
	if limit := big.NewInt(most); r.Num().CmpAbs(limit) > 0 || r.Denom().Cmp(limit) > 0 {
		return number{}
	}
	return number{r}
}

func (x number) plus(y number) number {
	if x.r == nil || y.r == nil {
		return number{}
	}
	return limited(new(big.Rat).Add(x.r, y.r))
}

func (x number) times(y number) number {
	if x.r == nil || y.r == nil {
		return number{}
	}
	return limited(new(big.Rat).Mul(x.r, y.r))
}

// result returns a number as a function of the program does, with its error.
func (x number) result() (api.Frac, api.Errno) {
	if x.r == nil {
		return api.Frac{}, api.ErrBig
	}
	return f(int(x.r.Num().Int64()), int(x.r.Denom().Int64())), api.OK
}

// unlimited returns the value of a function at a point, whatever its size.
func unlimited(l api.Linear, p [3]api.Frac) *big.Rat {
	sum, c := exact(l.K).r, parts(l)
	for i, x := range p {
		sum = new(big.Rat).Add(sum, new(big.Rat).Mul(exact(c[i+1]).r, exact(x).r))
	}
	return sum
}

func order(a, b api.Frac) int { return exact(a).r.Cmp(exact(b).r) }

func source() *rand.Rand { return rand.New(rand.NewPCG(4, 54)) }

// small returns a fraction with which all results of a few operations are representable.
func small(r *rand.Rand) api.Frac {
	a, _ := exact(n(r.IntN(41) - 20)).times(exact(f(1, 1+r.IntN(6)))).result()
	return a
}

// great returns a fraction with any size of numerator and denominator, or one at the end of a range.
func great(r *rand.Rand) api.Frac {
	if r.IntN(3) == 0 {
		ends := []api.Frac{n(0), n(1), n(2), f(1, 2), n(1 << 31), f(1, 1<<31), n(most / 2), n(most - 1), n(most), f(1, most), f(most, most-1)}
		a := ends[r.IntN(len(ends))]
		return f(a.N*(1-2*r.IntN(2)), a.D)
	}
	for {
		x, y := int64(r.Uint64()>>(2+r.IntN(62))), int64(r.Uint64()>>(2+r.IntN(62)))
		if new(big.Int).GCD(nil, nil, big.NewInt(x), big.NewInt(y)).Int64() == 1 && y > 0 {
			return f(int(x)*(1-2*r.IntN(2)), int(y))
		}
	}
}

// maker makes one fraction after the other.
type maker func() api.Frac

// eachMaker calls test with a maker of small fractions, one of great ones, and one that mixes both.
func eachMaker(test func(m maker, r *rand.Rand)) {
	r := source()
	test(func() api.Frac { return small(r) }, r)
	test(func() api.Frac { return great(r) }, r)
	test(func() api.Frac {
		if r.IntN(4) == 0 {
			return great(r)
		}
		return small(r)
	}, r)
}

func (m maker) function() api.Linear { return line(m(), m(), m(), m()) }

func (m maker) point() [3]api.Frac { return [3]api.Frac{m(), m(), m()} }

// interval makes an interval, whose bounds are sometimes equal.
func (m maker) interval() api.Interval {
	a, b := m(), m()
	switch {
	case a.N%5 == 0:
		return between(a, a)
	case order(a, b) > 0:
		return between(b, a)
	}
	return between(a, b)
}

func (m maker) box() api.Box { return box(m.interval(), m.interval(), m.interval()) }

// eachSmallBox calls test with the bounds of all boxes of integers from -1 to 1.
func eachSmallBox(test func(lo, hi [3]int)) {
	ends := [][2]int{{-1, -1}, {-1, 0}, {-1, 1}, {0, 0}, {0, 1}, {1, 1}}
	for _, x := range ends {
		for _, y := range ends {
			for _, z := range ends {
				test([3]int{x[0], y[0], z[0]}, [3]int{x[1], y[1], z[1]})
			}
		}
	}
}

// spans returns the box with integers as bounds.
func spans(lo, hi [3]int) api.Box {
	return box(span(lo[0], hi[0]), span(lo[1], hi[1]), span(lo[2], hi[2]))
}

// inner returns the interval between two numbers within i, which are bounds of i or small steps apart from them.
func inner(r *rand.Rand, i api.Interval) api.Interval {
	a, b := within(r, i), within(r, i)
	if order(a, b) > 0 {
		a, b = b, a
	}
	return between(a, b)
}

func innerBox(r *rand.Rand, b api.Box) api.Box {
	return box(inner(r, b.T), inner(r, b.V), inner(r, b.A))
}

func innerPoint(r *rand.Rand, b api.Box) [3]api.Frac {
	return [3]api.Frac{within(r, b.T), within(r, b.V), within(r, b.A)}
}

// within returns a number in an interval: a bound, or one between both as far as it is representable.
func within(r *rand.Rand, i api.Interval) api.Frac {
	switch r.IntN(5) {
	case 0:
		return i.Lo
	case 1:
		return i.Hi
	}
	share := exact(f(1, 2+r.IntN(3)))
	wide := exact(i.Hi).plus(exact(i.Lo).times(exact(n(-1))))
	a, e := exact(i.Lo).plus(wide.times(share)).result()
	if e != api.OK {
		return i.Lo
	}
	return a
}

// corners returns the eight corners of a box.
func corners(b api.Box) [][3]api.Frac {
	var l [][3]api.Frac
	for _, t := range []api.Frac{b.T.Lo, b.T.Hi} {
		for _, v := range []api.Frac{b.V.Lo, b.V.Hi} {
			for _, a := range []api.Frac{b.A.Lo, b.A.Hi} {
				l = append(l, [3]api.Frac{t, v, a})
			}
		}
	}
	return l
}

// law is a law of the chapter that is tested with some cases.
type law struct {
	t     *testing.T
	count int
}

// eachCase tests a law with each maker, and fails if results were refused so often that there were fewer than least cases.
func eachCase(t *testing.T, least int, test func(w *law, m maker, r *rand.Rand)) {
	w := law{t: t}
	eachMaker(func(m maker, r *rand.Rand) {
		for range 4000 {
			test(&w, m, r)
		}
	})
	if w.count < least {
		t.Errorf("only %d cases", w.count)
	}
}

// holds counts a case, and fails unless ok.
func (w *law) holds(ok bool, of ...any) {
	w.count++
	if !ok {
		w.t.Errorf("does not hold: %v", of)
	}
}

// equal says that two numbers are equal, if there are both.
func (w *law) equal(x, y number, of ...any) {
	if x.r != nil && y.r != nil {
		w.holds(x.r.Cmp(y.r) == 0, of, x.r, y.r)
	}
}

// contains says that a number lies in an interval.
func (w *law) contains(i api.Interval, x api.Frac, of ...any) {
	w.holds(order(i.Lo, x) <= 0 && order(x, i.Hi) <= 0 && linear.Contains(i, x), of, i, x)
}

// covers says that the interval i lies in j.
func (w *law) covers(i, j api.Interval, of ...any) {
	w.holds(order(j.Lo, i.Lo) <= 0 && order(i.Hi, j.Hi) <= 0 && linear.Within(i, j), of, i, j)
}

// calls calls every function of the package.
func calls(l, m api.Linear, b, c api.Box, p [3]api.Frac) {
	linear.Valid(l)
	linear.ValidInterval(b.T)
	linear.ValidBox(b)
	linear.At(l, p)
	linear.Range(l, b)
	linear.Add(l, m)
	linear.Sum([]api.Linear{l, m})
	linear.Scale(l, p[0])
	linear.Plus(b.T, c.V)
	linear.Hull(b.T, c.V)
	linear.Contains(b.T, p[0])
	linear.Within(b.T, c.V)
	linear.Inside(b, c)
}

// What is not valid has unspecified results, but it stops no caller.
func TestP1NoPanic(t *testing.T) {
	l := []api.Frac{n(0), n(1), n(-most), f(1, most)}
	for _, x := range []int{math.MinInt, -most - 1, -1, 0, 2, most + 1, math.MaxInt} {
		for _, y := range []int{math.MinInt, -2, -1, 0, 2, most + 1, math.MaxInt} {
			l = append(l, f(x, y))
		}
	}
	r := source()
	m := maker(func() api.Frac { return l[r.IntN(len(l))] })
	anyBox := func() api.Box { return box(between(m(), m()), between(m(), m()), between(m(), m())) }
	calls(api.Linear{}, api.Linear{}, api.Box{}, api.Box{}, [3]api.Frac{})
	for range 20000 {
		calls(m.function(), m.function(), anyBox(), anyBox(), m.point())
	}
}
