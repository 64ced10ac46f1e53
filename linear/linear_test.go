package linear_test

import (
	"math"
	"math/rand/v2"
	"testing"

	"wireloom/api"
	"wireloom/linear"
)

// atAsSaid is the value of a function at a point in the form of D2.
func atAsSaid(l api.Linear, p [3]api.Frac) number {
	t, v, a := exact(l.T).times(exact(p[0])), exact(l.V).times(exact(p[1])), exact(l.A).times(exact(p[2]))
	return exact(l.K).plus(t).plus(v).plus(a)
}

// rangeAsSaid takes the values at both points of D3.
func rangeAsSaid(l api.Linear, b api.Box) (api.Interval, api.Errno) {
	var low, high [3]api.Frac
	for k, i := range sides(b) {
		low[k], high[k] = i.Lo, i.Hi
		if parts(l)[k+1].N < 0 {
			low[k], high[k] = i.Hi, i.Lo
		}
	}
	lo, e := atAsSaid(l, low).result()
	hi, e2 := atAsSaid(l, high).result()
	if e != api.OK || e2 != api.OK {
		return api.Interval{}, api.ErrBig
	}
	return between(lo, hi), api.OK
}

// outcomes counts results with and without an error.
type outcomes [2]int

func (o *outcomes) count(e api.Errno) {
	if e == api.OK {
		o[0]++
	} else {
		o[1]++
	}
}

// were fails unless there were enough results of both kinds.
func (o *outcomes) were(t *testing.T, least int) {
	if o[0] < least || o[1] < least {
		t.Errorf("only %d results without and %d with an error", o[0], o[1])
	}
}

func checkAt(t *testing.T, l api.Linear, p [3]api.Frac, want api.Frac, e api.Errno) {
	t.Helper()
	if got, e2 := linear.At(l, p); got != want || e2 != e {
		t.Errorf("At(%v, %v): %v, %d, want %v, %d", l, p, got, e2, want, e)
	}
}

func checkRange(t *testing.T, l api.Linear, b api.Box, want api.Interval, e api.Errno) {
	t.Helper()
	if got, e2 := linear.Range(l, b); got != want || e2 != e {
		t.Errorf("Range(%v, %v): %v, %d, want %v, %d", l, b, got, e2, want, e)
	}
}

func TestP4_1Examples(t *testing.T) {
	l := whole(5, 2, -3, 0)
	checkRange(t, l, box(span(0, 10), span(1, 2), span(0, 0)), span(-1, 22), api.OK)
	checkAt(t, l, [3]api.Frac{f(1, 2), n(1), n(0)}, n(3), api.OK)
}

// notValid lists fractions that are not valid, each for a reason of its own.
func notValid() []api.Frac {
	return []api.Frac{
		{}, f(1, 0), f(-1, 0), f(0, 2), f(0, -1), f(2, 4), f(-6, 3), f(1, -1), f(-1, -2), f(most, 2), f(3, most-1),
		n(most + 1), n(-most - 1), f(1, most+1), f(most+1, most+2), n(math.MaxInt), n(math.MinInt), f(1, math.MaxInt), f(1, math.MinInt), f(math.MinInt, math.MinInt),
	}
}

func TestP4_1Valid(t *testing.T) {
	for _, l := range []api.Linear{whole(0, 0, 0, 0), whole(1, 2, 3, 4), whole(-1, -2, -3, -4), whole(most, -most, most, -most), line(f(1, most), f(-1, most), f(most, most-1), f(-5, 7))} {
		if !linear.Valid(l) {
			t.Errorf("%v is not valid", l)
		}
		for place := range 4 {
			for _, bad := range notValid() {
				c := parts(l)
				c[place] = bad
				if linear.Valid(made(c)) {
					t.Errorf("%v is valid", made(c))
				}
			}
		}
	}
	for _, bad := range notValid() {
		if linear.Valid(line(bad, bad, bad, bad)) {
			t.Errorf("a function whose coefficients are %v is valid", bad)
		}
	}
	if linear.Valid(api.Linear{}) {
		t.Error("the zero value is valid")
	}
	eachMaker(func(m maker, _ *rand.Rand) {
		for range 1000 {
			if l := m.function(); !linear.Valid(l) {
				t.Errorf("%v is not valid", l)
			}
		}
	})
}

func TestP4_1AtKnown(t *testing.T) {
	for _, c := range []struct {
		l    api.Linear
		p    [3]api.Frac
		want api.Frac
	}{
		{whole(0, 0, 0, 0), point(3, 4, 5), n(0)},
		{whole(7, 0, 0, 0), point(3, 4, 5), n(7)},
		{whole(0, 1, 0, 0), point(3, 4, 5), n(3)},
		{whole(0, 0, 1, 0), point(3, 4, 5), n(4)},
		{whole(0, 0, 0, 1), point(3, 4, 5), n(5)},
		{whole(1000, 100, 10, 1), point(3, 4, 5), n(1345)},
		{whole(1000, -100, -10, -1), point(3, 4, 5), n(655)},
		{whole(1000, 100, 10, 1), point(-3, -4, -5), n(655)},
		{whole(-1, -1, -1, -1), point(-3, -4, -5), n(11)},
		{whole(9, 8, 7, 6), point(0, 0, 0), n(9)},
		{line(f(1, 2), f(1, 3), f(1, 5), f(1, 7)), point(1, 1, 1), f(247, 210)},
		{line(f(1, 2), f(2, 3), f(-3, 5), n(0)), [3]api.Frac{f(3, 4), f(5, 6), f(1, 9)}, f(1, 2)},
		{whole(0, 2, 3, 6), [3]api.Frac{f(1, 2), f(1, 3), f(1, 6)}, n(3)},
		{line(n(0), f(1, 3), n(0), n(0)), point(1, 1, 1), f(1, 3)},
	} {
		checkAt(t, c.l, c.p, c.want, api.OK)
	}
}

// Values at the ends of the range, beside values that are a little greater.
func TestP4_1AtEnds(t *testing.T) {
	for _, c := range []struct {
		l    api.Linear
		p    [3]api.Frac
		want api.Frac
		e    api.Errno
	}{
		{whole(most, 0, 0, 0), point(1, 1, 1), n(most), api.OK},
		{whole(most-1, 1, 0, 0), point(1, 0, 0), n(most), api.OK},
		{whole(most, 1, 0, 0), point(1, 0, 0), f(0, 0), api.ErrBig},
		{whole(-most, 1, 0, 0), point(-1, 0, 0), f(0, 0), api.ErrBig},
		{whole(0, most, 0, 0), point(1, 1, 1), n(most), api.OK},
		{whole(0, 0, most, 0), point(1, -1, 1), n(-most), api.OK},
		{whole(0, 0, 0, most), point(1, 1, 1), n(most), api.OK},
		{whole(0, most/2, 0, 0), point(2, 0, 0), n(most), api.OK},
		{whole(0, most/2+1, 0, 0), point(2, 0, 0), f(0, 0), api.ErrBig},
		{whole(0, 0, most/2+1, 0), point(0, 2, 0), f(0, 0), api.ErrBig},
		{whole(0, 0, 0, most/2+1), point(0, 0, -2), f(0, 0), api.ErrBig},
		{whole(1-most, -1, 1, 0), point(1, 1, 0), n(1 - most), api.OK},
		{line(n(0), f(1, most/2), n(0), n(0)), [3]api.Frac{f(1, 2), n(0), n(0)}, f(1, most), api.OK},
		{line(n(0), f(1, most), n(0), n(0)), [3]api.Frac{f(1, 2), n(0), n(0)}, f(0, 0), api.ErrBig},
		{line(f(1, 1<<31), f(1, 1<<31-1), n(0), n(0)), point(1, 0, 0), f(1<<32-1, 1<<31*(1<<31-1)), api.OK},
		{line(f(1, 1<<31), f(1, 1<<31+1), n(0), n(0)), point(1, 0, 0), f(0, 0), api.ErrBig},
	} {
		checkAt(t, c.l, c.p, c.want, c.e)
	}
}

// In each of these cases, one product or sum on the way is too big, although the value itself is not.
func TestP4_1AtOnTheWay(t *testing.T) {
	for _, c := range []struct {
		step string
		l    api.Linear
		p    [3]api.Frac
	}{
		{"T p[0]", whole(0, 1<<40, -1<<40, 0), point(1<<40, 1<<40, 0)},
		{"T p[0], with K", whole(-most, most, 0, 0), point(2, 0, 0)},
		{"T p[0], a denominator", line(n(0), f(1, most), f(-1, most), n(0)), [3]api.Frac{f(1, 3), f(1, 3), n(0)}},
		{"V p[1]", whole(-most, 0, most, 0), point(0, 2, 0)},
		{"V p[1], with A", whole(0, 0, 1<<40, -1<<40), point(0, 1<<40, 1<<40)},
		{"A p[2]", whole(-most, 0, 0, most), point(0, 0, 2)},
		{"A p[2], with T", whole(0, 1<<61, 0, 1<<61), point(-2, 0, 3)},
		{"the first sum", whole(most, 1, -1, 0), point(1, 1, 0)},
		{"the first sum, with A", whole(-most, -1, 0, 1), point(1, 5, 1)},
		{"the first sum, a denominator", line(f(1, 1<<31), f(1, 1<<31+1), f(-1, 1<<31+1), n(0)), point(1, 1, 0)},
		{"the second sum", whole(0, most, 1, -1), point(1, 1, 1)},
		{"the second sum, with K", whole(most, 0, 1, -1), point(9, 1, 1)},
		{"the second sum, a denominator", line(n(0), f(1, 1<<31), f(1, 1<<31+1), f(-1, 1<<31)), point(1, 1, 1)},
	} {
		if v := limited(unlimited(c.l, c.p)); v.r == nil {
			t.Errorf("%s: the value does not fit either", c.step)
		}
		checkAt(t, c.l, c.p, f(0, 0), api.ErrBig)
	}
	// Behind the third sum comes no other one.
	checkAt(t, whole(0, 0, most, 1), point(0, 1, 1), f(0, 0), api.ErrBig)
}

// The sums are computed in the form of D2: in these cases another order would be too big on the way.
func TestP4_1AtOrder(t *testing.T) {
	for _, c := range []struct {
		l    api.Linear
		p    [3]api.Frac
		want int
	}{
		{whole(most, -1, 1, 0), point(1, 1, 0), most},
		{whole(most, -1, 0, 1), point(1, 1, 1), most},
		{whole(-most, 1, -1, 0), point(1, 1, 0), -most},
		{whole(-1, most, 1, 0), point(1, 1, 1), most},
		{whole(1, -most, -1, 0), point(1, 1, 1), -most},
		{whole(0, most, -1, 1), point(1, 1, 1), most},
		{whole(0, most, -most, -1), point(1, 1, 1), -1},
		{whole(most, -most, most, 0), point(1, 1, 1), most},
		{whole(0, -1, most, 1), point(1, 1, 1), most},
		{whole(most-1, 1, -most, -most), point(1, 1, 1), -most},
	} {
		checkAt(t, c.l, c.p, n(c.want), api.OK)
	}
}

func TestP4_1At(t *testing.T) {
	var got outcomes
	eachMaker(func(m maker, _ *rand.Rand) {
		for range 8000 {
			l, p := m.function(), m.point()
			want, e := atAsSaid(l, p).result()
			checkAt(t, l, p, want, e)
			got.count(e)
		}
	})
	got.were(t, 3000)
}

func TestP4_1RangeKnown(t *testing.T) {
	b := box(span(-2, 3), span(4, 7), span(-9, -5))
	for _, c := range []struct {
		l      api.Linear
		lo, hi api.Frac
	}{
		{whole(0, 0, 0, 0), n(0), n(0)},
		{whole(-8, 0, 0, 0), n(-8), n(-8)},
		{whole(0, 1, 0, 0), n(-2), n(3)},
		{whole(0, -1, 0, 0), n(-3), n(2)},
		{whole(0, 0, 1, 0), n(4), n(7)},
		{whole(0, 0, -1, 0), n(-7), n(-4)},
		{whole(0, 0, 0, 1), n(-9), n(-5)},
		{whole(0, 0, 0, -1), n(5), n(9)},
		{whole(1, 1, 1, 1), n(-6), n(6)},
		{whole(1, -1, -1, -1), n(-4), n(8)},
		{whole(0, 100, -10, 1), n(-279), n(255)},
		{line(f(1, 2), f(1, 3), f(-1, 4), f(1, 5)), f(-223, 60), f(-1, 2)},
	} {
		checkRange(t, c.l, b, between(c.lo, c.hi), api.OK)
	}
	checkRange(t, whole(1, 2, 3, 4), box(span(5, 5), span(-6, -6), span(7, 7)), span(21, 21), api.OK)
	checkRange(t, whole(1, -2, 3, -4), box(span(5, 5), span(-6, 6), span(7, 7)), span(-55, -19), api.OK)
	checkRange(t, line(n(0), f(-1, most), n(0), n(0)), box(span(-most, most), span(0, 0), span(0, 0)), span(-1, 1), api.OK)
}

// All functions with coefficients from -1 to 1, and all boxes within a small one: the least and the greatest value are those at points with integers.
func TestP4_1RangeSmall(t *testing.T) {
	eachSmallBox(func(lo, hi [3]int) {
		for code := range 81 {
			c := [4]int{code%3 - 1, code/3%3 - 1, code/9%3 - 1, code/27 - 1}
			least, greatest := math.MaxInt, math.MinInt
			for x := lo[0]; x <= hi[0]; x++ {
				for y := lo[1]; y <= hi[1]; y++ {
					for z := lo[2]; z <= hi[2]; z++ {
						value := c[0] + c[1]*x + c[2]*y + c[3]*z
						least, greatest = min(least, value), max(greatest, value)
					}
				}
			}
			checkRange(t, whole(c[0], c[1], c[2], c[3]), spans(lo, hi), span(least, greatest), api.OK)
		}
	})
}

// Either value is enough to be refused, also for what is on the way to it.
func TestP4_1RangeTooBig(t *testing.T) {
	none := span(0, 0)
	for _, c := range []struct {
		l api.Linear
		b api.Box
	}{
		{whole(0, 1<<40, 0, 0), box(span(1<<40, 1<<41), none, none)},
		{whole(0, 1<<40, 0, 0), box(span(0, 1<<40), none, none)},
		{whole(0, 1<<40, 0, 0), box(span(-1<<40, 0), none, none)},
		{whole(0, 0, -1<<40, 0), box(none, span(0, 1<<40), none)},
		{whole(0, 0, -1<<40, 0), box(none, span(-1<<40, 0), none)},
		{whole(0, 0, 0, 1<<40), box(none, none, span(-1, 1<<40))},
		{whole(0, 0, 0, 1<<40), box(none, none, span(-1<<40, 1))},
		{whole(most, 1, 0, 0), box(span(-1, 1), none, none)},
		{whole(-most, 1, 0, 0), box(span(-1, 1), none, none)},
		{whole(most, 1, -1, 0), box(span(0, 1), span(1, 1), none)},
		{whole(-most, 1, 1, 0), box(span(-1, 0), span(1, 1), none)},
		{whole(0, 1<<40, -1<<40, 0), box(span(1<<40, 1<<40), span(1<<40, 1<<40), none)},
		{line(n(0), f(1, most), n(0), n(0)), box(between(f(1, 2), n(1)), none, none)},
		{line(n(0), f(1, most), n(0), n(0)), box(between(n(1), f(3, 2)), none, none)},
	} {
		checkRange(t, c.l, c.b, api.Interval{}, api.ErrBig)
	}
}

// Other corners than both of D3 do not matter: here the values at all of them are too big.
func TestP4_1RangeOtherCorners(t *testing.T) {
	two, three := f(1, 1<<40), f(1, 3486784401) // the second one is 1 over 3 to the power of 20
	l, b := whole(0, 1, 1, 0), box(between(two, three), between(two, three), span(0, 0))
	checkAt(t, l, [3]api.Frac{two, three, n(0)}, f(0, 0), api.ErrBig)
	checkAt(t, l, [3]api.Frac{three, two, n(0)}, f(0, 0), api.ErrBig)
	checkRange(t, l, b, between(f(1, 1<<39), f(2, 3486784401)), api.OK)
}

func TestP4_1Range(t *testing.T) {
	var got outcomes
	eachMaker(func(m maker, _ *rand.Rand) {
		for range 8000 {
			l, b := m.function(), m.box()
			want, e := rangeAsSaid(l, b)
			checkRange(t, l, b, want, e)
			got.count(e)
		}
	})
	got.were(t, 3000)
}
