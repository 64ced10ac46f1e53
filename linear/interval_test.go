package linear_test

import (
	"math/rand/v2"
	"testing"

	"wireloom/api"
	"wireloom/linear"
)

func checkPlus(t *testing.T, i, j, want api.Interval, e api.Errno) {
	t.Helper()
	if got, e2 := linear.Plus(i, j); got != want || e2 != e {
		t.Errorf("Plus(%v, %v): %v, %d, want %v, %d", i, j, got, e2, want, e)
	}
}

func checkHull(t *testing.T, i, j, want api.Interval) {
	t.Helper()
	if got := linear.Hull(i, j); got != want {
		t.Errorf("Hull(%v, %v): %v, want %v", i, j, got, want)
	}
}

// notIntervals lists intervals that are not valid.
func notIntervals() []api.Interval {
	l := []api.Interval{span(1, 0), span(0, -1), span(most, -most), span(most, most-1), between(f(1, 2), f(1, 3)), between(f(-1, 3), f(-1, 2)), between(f(1, most-1), f(1, most)), between(n(1), f(most-1, most))}
	for _, bad := range notValid() {
		l = append(l, between(bad, bad), between(bad, n(most)), between(n(-most), bad), between(bad, n(0)), between(n(0), bad))
	}
	return l
}

func TestP4_1ValidInterval(t *testing.T) {
	for _, i := range []api.Interval{span(0, 0), span(0, 1), span(-1, -1), span(-2, -1), span(-1, 1), span(-most, most), span(most, most), span(-most, -most), between(f(1, 3), f(1, 2)), between(f(-1, 2), f(-1, 3)), between(f(1, most), f(1, most-1)), between(f(most-1, most), n(1)), between(f(1, most), f(1, most))} {
		if !linear.ValidInterval(i) {
			t.Errorf("%v is not valid", i)
		}
	}
	for _, i := range notIntervals() {
		if linear.ValidInterval(i) {
			t.Errorf("%v is valid", i)
		}
	}
	eachMaker(func(m maker, _ *rand.Rand) {
		for range 5000 {
			a, b := m(), m()
			if i := between(a, b); linear.ValidInterval(i) != (order(a, b) <= 0) {
				t.Errorf("ValidInterval(%v): %v", i, linear.ValidInterval(i))
			}
		}
	})
}

func TestP4_1ValidBox(t *testing.T) {
	for _, good := range []api.Interval{span(0, 0), span(-5, 7), span(-most, most), between(f(1, 3), f(1, 2))} {
		if !linear.ValidBox(box(good, good, good)) {
			t.Errorf("a box of three times %v is not valid", good)
		}
		for _, bad := range notIntervals() {
			for _, b := range []api.Box{box(bad, good, good), box(good, bad, good), box(good, good, bad), box(bad, bad, bad)} {
				if linear.ValidBox(b) {
					t.Errorf("%v is valid", b)
				}
			}
		}
	}
	if !linear.ValidBox(box(span(5, 6), span(3, 4), span(1, 2))) || linear.ValidBox(api.Box{}) {
		t.Error("ValidBox")
	}
	eachMaker(func(m maker, _ *rand.Rand) {
		for range 1000 {
			if b := m.box(); !linear.ValidBox(b) {
				t.Errorf("%v is not valid", b)
			}
		}
	})
}

func TestP4_1PlusKnown(t *testing.T) {
	for _, c := range []struct{ i, j, want api.Interval }{
		{span(0, 0), span(0, 0), span(0, 0)},
		{span(1, 2), span(0, 0), span(1, 2)},
		{span(1, 2), span(10, 20), span(11, 22)},
		{span(1, 2), span(-20, -10), span(-19, -8)},
		{span(-3, 4), span(-5, 5), span(-8, 9)},
		{span(7, 7), span(-7, -7), span(0, 0)},
		{between(f(1, 6), f(1, 2)), between(f(1, 10), f(1, 3)), between(f(4, 15), f(5, 6))},
		{span(-most, most), span(0, 0), span(-most, most)},
		{span(1-most, most-1), span(-1, 1), span(-most, most)},
		{span(-most, -most), span(most, most), span(0, 0)},
	} {
		checkPlus(t, c.i, c.j, c.want, api.OK)
		checkPlus(t, c.j, c.i, c.want, api.OK)
	}
}

// Either sum is enough to be refused.
func TestP4_1PlusTooBig(t *testing.T) {
	for _, c := range [][2]api.Interval{
		{span(0, most), span(0, 1)},
		{span(0, most), span(-1, 1)},
		{span(-most, 0), span(-1, 0)},
		{span(-most, 0), span(-1, 1)},
		{span(most, most), span(1, 1)},
		{span(-most, -most), span(-1, -1)},
		{span(-most, most), span(-1, 1)},
		{between(n(0), f(1, 1<<31)), between(n(0), f(1, 1<<31+1))},
		{between(f(-1, 1<<31), n(0)), between(f(-1, 1<<31+1), n(0))},
		{between(f(1, 1<<31), n(1)), between(f(1, 1<<31+1), n(1))},
	} {
		checkPlus(t, c[0], c[1], api.Interval{}, api.ErrBig)
		checkPlus(t, c[1], c[0], api.Interval{}, api.ErrBig)
	}
}

func TestP4_1Plus(t *testing.T) {
	var got outcomes
	eachMaker(func(m maker, _ *rand.Rand) {
		for range 10000 {
			i, j := m.interval(), m.interval()
			lo, e := exact(i.Lo).plus(exact(j.Lo)).result()
			hi, e2 := exact(i.Hi).plus(exact(j.Hi)).result()
			want, wantError := between(lo, hi), api.OK
			if e != api.OK || e2 != api.OK {
				want, wantError = api.Interval{}, api.ErrBig
			}
			checkPlus(t, i, j, want, wantError)
			got.count(wantError)
		}
	})
	got.were(t, 5000)
}

func TestP4_1HullKnown(t *testing.T) {
	for _, c := range []struct{ i, j, want api.Interval }{
		{span(0, 0), span(0, 0), span(0, 0)},
		{span(1, 2), span(1, 2), span(1, 2)},
		{span(1, 2), span(4, 5), span(1, 5)},
		{span(1, 2), span(2, 5), span(1, 5)},
		{span(1, 4), span(2, 5), span(1, 5)},
		{span(1, 5), span(2, 4), span(1, 5)},
		{span(1, 5), span(1, 4), span(1, 5)},
		{span(1, 5), span(2, 5), span(1, 5)},
		{span(1, 5), span(3, 3), span(1, 5)},
		{span(-5, -4), span(-2, -1), span(-5, -1)},
		{span(-5, 4), span(-6, 3), span(-6, 4)},
		{span(-most, -most), span(most, most), span(-most, most)},
		{between(f(1, 3), f(1, 2)), between(f(1, 4), f(2, 5)), between(f(1, 4), f(1, 2))},
		{between(f(1, most), f(1, most)), between(f(1, most-1), f(1, most-1)), between(f(1, most), f(1, most-1))},
	} {
		checkHull(t, c.i, c.j, c.want)
		checkHull(t, c.j, c.i, c.want)
	}
}

func TestP4_1Hull(t *testing.T) {
	eachMaker(func(m maker, _ *rand.Rand) {
		for range 10000 {
			i, j := m.interval(), m.interval()
			want := i
			if order(j.Lo, i.Lo) < 0 {
				want.Lo = j.Lo
			}
			if order(j.Hi, i.Hi) > 0 {
				want.Hi = j.Hi
			}
			checkHull(t, i, j, want)
		}
	})
}

func TestP4_1Contains(t *testing.T) {
	for _, c := range []struct {
		i    api.Interval
		x    api.Frac
		want bool
	}{
		{span(1, 2), n(1), true},
		{span(1, 2), n(2), true},
		{span(1, 2), f(3, 2), true},
		{span(1, 2), f(most-1, most), false},
		{span(1, 2), f(most, most-1), true},
		{span(1, 2), f(5, 2), false},
		{span(1, 2), n(0), false},
		{span(1, 2), n(3), false},
		{span(1, 2), f(-3, 2), false},
		{span(3, 3), n(3), true},
		{span(3, 3), n(2), false},
		{span(3, 3), n(4), false},
		{span(-2, -1), f(-3, 2), true},
		{span(-2, -1), n(0), false},
		{span(-most, most), n(-most), true},
		{span(-most, most), n(most), true},
		{span(-most, most-1), n(most), false},
		{span(1-most, most), n(-most), false},
		{between(f(1, most), f(1, 2)), n(0), false},
	} {
		if linear.Contains(c.i, c.x) != c.want {
			t.Errorf("Contains(%v, %v): %v", c.i, c.x, !c.want)
		}
	}
	eachMaker(func(m maker, r *rand.Rand) {
		for range 10000 {
			i, x := m.interval(), m()
			if r.IntN(2) == 0 {
				x = within(r, i)
			}
			want := order(i.Lo, x) <= 0 && order(x, i.Hi) <= 0
			if linear.Contains(i, x) != want {
				t.Errorf("Contains(%v, %v): %v", i, x, !want)
			}
		}
	})
}

// All pairs of intervals whose bounds are integers from 0 to 4: each integer of the one is asked for in the other one.
func TestP4_1WithinSmall(t *testing.T) {
	for code := range 625 {
		a, b, c, d := code%5, code/5%5, code/25%5, code/125
		if a > b || c > d {
			continue
		}
		want := true
		for x := a; x <= b; x++ {
			want = want && c <= x && x <= d
		}
		if linear.Within(span(a, b), span(c, d)) != want {
			t.Errorf("Within of %d to %d and %d to %d: %v", a, b, c, d, !want)
		}
	}
}

func TestP4_1Within(t *testing.T) {
	var got [2]int
	eachMaker(func(m maker, r *rand.Rand) {
		for range 10000 {
			i, j := m.interval(), m.interval()
			if r.IntN(2) == 0 {
				i = inner(r, j)
			}
			want := order(j.Lo, i.Lo) <= 0 && order(i.Hi, j.Hi) <= 0
			if linear.Within(i, j) != want {
				t.Errorf("Within(%v, %v): %v", i, j, !want)
			}
			if want {
				got[0]++
			} else {
				got[1]++
			}
		}
	})
	if got[0] < 5000 || got[1] < 5000 {
		t.Errorf("only %v cases", got)
	}
}

// All pairs of small boxes: each point with integers of the one is asked for in the other one.
func TestP4_1InsideSmall(t *testing.T) {
	eachSmallBox(func(lo, hi [3]int) {
		eachSmallBox(func(low, high [3]int) {
			want := true
			for x := lo[0]; x <= hi[0]; x++ {
				for y := lo[1]; y <= hi[1]; y++ {
					for z := lo[2]; z <= hi[2]; z++ {
						want = want && low[0] <= x && x <= high[0] && low[1] <= y && y <= high[1] && low[2] <= z && z <= high[2]
					}
				}
			}
			if linear.Inside(spans(lo, hi), spans(low, high)) != want {
				t.Errorf("Inside of %v to %v and %v to %v: %v", lo, hi, low, high, !want)
			}
		})
	})
}

// A box with one bound moved outwards is not inside the box as it was, and with one moved inwards it is.
func TestP4_1InsideBounds(t *testing.T) {
	steps := []api.Frac{n(1), f(1, 2), f(1, 1<<30)}
	outer := box(span(-3, 4), span(5, 9), span(-8, -6))
	if !linear.Inside(outer, outer) {
		t.Errorf("%v is not inside itself", outer)
	}
	for side := range 3 {
		for _, step := range steps {
			for _, sign := range []int{1, -1} {
				moved := exact(step).times(exact(n(sign)))
				lower, upper := sides(outer), sides(outer)
				lower[side].Lo, _ = exact(lower[side].Lo).plus(moved).result()
				upper[side].Hi, _ = exact(upper[side].Hi).plus(moved).result()
				if b := box(lower[0], lower[1], lower[2]); linear.Inside(b, outer) != (sign > 0) {
					t.Errorf("Inside(%v, %v): %v", b, outer, sign < 0)
				}
				if b := box(upper[0], upper[1], upper[2]); linear.Inside(b, outer) != (sign < 0) {
					t.Errorf("Inside(%v, %v): %v", b, outer, sign > 0)
				}
			}
		}
	}
}
