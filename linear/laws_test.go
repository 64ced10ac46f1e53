package linear_test

import (
	"math/rand/v2"
	"testing"

	"wireloom/api"
	"wireloom/linear"
)

func TestP4_2Between(t *testing.T) {
	eachCase(t, 15000, func(w *law, m maker, r *rand.Rand) {
		l, b := m.function(), m.box()
		i, e := linear.Range(l, b)
		if e != api.OK {
			return
		}
		for range 4 {
			p := innerPoint(r, b)
			if value, e := linear.At(l, p); e == api.OK {
				w.contains(i, value, l, b, p)
			}
		}
	})
}

// Both bounds are values at corners, and the values at all corners lie between them.
func TestP4_2Corners(t *testing.T) {
	eachCase(t, 40000, func(w *law, m maker, _ *rand.Rand) {
		l, b := m.function(), m.box()
		i, e := linear.Range(l, b)
		if e != api.OK {
			return
		}
		lo, hi := false, false
		for _, p := range corners(b) {
			if value, e := linear.At(l, p); e == api.OK {
				w.contains(i, value, l, b, p)
				lo, hi = lo || value == i.Lo, hi || value == i.Hi
			}
		}
		w.holds(lo && hi, l, b, i)
	})
}

// At one point, the range is the value; so it is everywhere if nothing depends on the conditions.
func TestP4_2Points(t *testing.T) {
	eachCase(t, 20000, func(w *law, m maker, _ *rand.Rand) {
		l, p := m.function(), m.point()
		value, e := linear.At(l, p)
		i, e2 := linear.Range(l, box(between(p[0], p[0]), between(p[1], p[1]), between(p[2], p[2])))
		w.holds(e == e2 && i == between(value, value), l, p, value, e, i, e2)
		l = whole(0, 0, 0, 0)
		l.K = m()
		i, e = linear.Range(l, m.box())
		w.holds(e == api.OK && i == between(l.K, l.K), l, i, e)
	})
}

func TestP4_3Values(t *testing.T) {
	eachCase(t, 4000, func(w *law, m maker, _ *rand.Rand) {
		l, k, p := m.function(), m.function(), m.point()
		if sum, e := linear.Add(l, k); e == api.OK {
			w.equal(kept(linear.At(sum, p)), kept(linear.At(l, p)).plus(kept(linear.At(k, p))), l, k, p)
		}
	})
}

func TestP4_3Ranges(t *testing.T) {
	eachCase(t, 4000, func(w *law, m maker, _ *rand.Rand) {
		l, k, b := m.function(), m.function(), m.box()
		sum, e := linear.Add(l, k)
		x, e2 := linear.Range(l, b)
		y, e3 := linear.Range(k, b)
		if e != api.OK || e2 != api.OK || e3 != api.OK {
			return
		}
		i, e := linear.Range(sum, b)
		j, e2 := linear.Plus(x, y)
		if e == api.OK && e2 == api.OK {
			w.covers(i, j, l, k, b)
		}
	})
}

func TestP4_3Lists(t *testing.T) {
	eachCase(t, 4000, func(w *law, m maker, r *rand.Rand) {
		list, p, values := make([]api.Linear, r.IntN(6)), m.point(), exact(n(0))
		for i := range list {
			list[i] = m.function()
			values = values.plus(kept(linear.At(list[i], p)))
		}
		if sum, e := linear.Sum(list); e == api.OK {
			w.equal(kept(linear.At(sum, p)), values, list, p)
		}
	})
}

func TestP4_3ListRanges(t *testing.T) {
	eachCase(t, 4000, func(w *law, m maker, r *rand.Rand) {
		list, b, j, e := make([]api.Linear, r.IntN(6)), m.box(), span(0, 0), api.OK
		for i := range list {
			list[i] = m.function()
			next, e2 := linear.Range(list[i], b)
			if e == api.OK && e2 == api.OK {
				j, e = linear.Plus(j, next)
			} else {
				e = api.ErrBig
			}
		}
		sum, e2 := linear.Sum(list)
		if e != api.OK || e2 != api.OK {
			return
		}
		if i, e := linear.Range(sum, b); e == api.OK {
			w.covers(i, j, list, b)
		}
	})
}

// A sum of a list is that of its beginning and its last function.
func TestP4_3Last(t *testing.T) {
	eachCase(t, 12000, func(w *law, m maker, r *rand.Rand) {
		list := make([]api.Linear, 1+r.IntN(5))
		for i := range list {
			list[i] = m.function()
		}
		last := len(list) - 1
		want, e := linear.Sum(list[:last])
		if e == api.OK {
			want, e = linear.Add(want, list[last])
		}
		sum, e2 := linear.Sum(list)
		w.holds(sum == want && e == e2, list, sum, e2, want, e)
	})
}

func TestP4_4NotNegative(t *testing.T) {
	eachCase(t, 10000, func(w *law, m maker, _ *rand.Rand) {
		l, b, x := m.function(), m.box(), m()
		x.N = max(x.N, -x.N)
		scaled, e := linear.Scale(l, x)
		i, e2 := linear.Range(l, b)
		if e != api.OK || e2 != api.OK {
			return
		}
		if j, e := linear.Range(scaled, b); e == api.OK {
			w.equal(exact(j.Lo), exact(i.Lo).times(exact(x)), l, b, x)
			w.equal(exact(j.Hi), exact(i.Hi).times(exact(x)), l, b, x)
		}
	})
}

// The bounds that change places are as great as before, so nothing is refused that was not.
func TestP4_4Negated(t *testing.T) {
	eachCase(t, 4000, func(w *law, m maker, _ *rand.Rand) {
		l, b := m.function(), m.box()
		i, e := linear.Range(l, b)
		if e != api.OK {
			return
		}
		negated, e := linear.Scale(l, n(-1))
		j, e2 := linear.Range(negated, b)
		want := between(f(-i.Hi.N, i.Hi.D), f(-i.Lo.N, i.Lo.D))
		w.holds(e == api.OK && e2 == api.OK && j == want, l, b, i, j, e, e2)
	})
}

func TestP4_4Values(t *testing.T) {
	eachCase(t, 4000, func(w *law, m maker, _ *rand.Rand) {
		l, p, x := m.function(), m.point(), m()
		if scaled, e := linear.Scale(l, x); e == api.OK {
			w.equal(kept(linear.At(scaled, p)), kept(linear.At(l, p)).times(exact(x)), l, p, x)
		}
	})
}

func TestP4_5Smaller(t *testing.T) {
	eachCase(t, 15000, func(w *law, m maker, r *rand.Rand) {
		l, outer := m.function(), m.box()
		b := innerBox(r, outer)
		w.holds(linear.Inside(b, outer), b, outer)
		i, e := linear.Range(l, b)
		j, e2 := linear.Range(l, outer)
		if e == api.OK && e2 == api.OK {
			w.covers(i, j, l, b, outer)
		}
	})
}

// One of three functions tells each box that is not inside another one from it.
func TestP4_5NotSmaller(t *testing.T) {
	axes := []api.Linear{whole(0, 1, 0, 0), whole(0, 0, 1, 0), whole(0, 0, 0, 1)}
	eachCase(t, 12000, func(w *law, m maker, r *rand.Rand) {
		outer, b := m.box(), m.box()
		if r.IntN(2) == 0 {
			b.T, b.V = inner(r, outer.T), inner(r, outer.V)
		}
		all := true
		for _, l := range axes {
			i, e := linear.Range(l, b)
			j, e2 := linear.Range(l, outer)
			all = all && e == api.OK && e2 == api.OK && linear.Within(i, j)
		}
		w.holds(linear.Inside(b, outer) == all, b, outer, all)
	})
}

func TestP4_6Plus(t *testing.T) {
	eachCase(t, 15000, func(w *law, m maker, r *rand.Rand) {
		i, j := m.interval(), m.interval()
		sums, e := linear.Plus(i, j)
		if e != api.OK {
			return
		}
		for range 2 {
			x, y := within(r, i), within(r, j)
			if sum, e := exact(x).plus(exact(y)).result(); e == api.OK {
				w.contains(sums, sum, i, j)
			}
		}
	})
}

func TestP4_6HullContains(t *testing.T) {
	eachCase(t, 60000, func(w *law, m maker, r *rand.Rand) {
		i, j := m.interval(), m.interval()
		hull := linear.Hull(i, j)
		w.holds(linear.ValidInterval(hull), i, j, hull)
		w.covers(i, hull)
		w.covers(j, hull)
		w.contains(hull, within(r, i), i, j)
		w.contains(hull, within(r, j), i, j)
	})
}

// The hull lies within an interval if and only if both intervals do.
func TestP4_6HullLeast(t *testing.T) {
	eachCase(t, 48000, func(w *law, m maker, r *rand.Rand) {
		outer, other := m.interval(), m.interval()
		i, j := inner(r, outer), inner(r, outer)
		hull := linear.Hull(i, j)
		w.covers(i, outer)
		w.covers(j, outer)
		w.covers(hull, outer, i, j)
		both := linear.Within(i, other) && linear.Within(j, other)
		w.holds(both == linear.Within(hull, other), i, j, hull, other)
	})
}
