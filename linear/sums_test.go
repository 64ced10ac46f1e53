package linear_test

import (
	"math/rand/v2"
	"slices"
	"testing"

	"wireloom/api"
	"wireloom/linear"
)

// combined returns the function of two whose coefficients do computes.
func combined(l, m api.Linear, do func(x, y number) number) (api.Linear, api.Errno) {
	var c [4]api.Frac
	for i := range c {
		var e api.Errno
		c[i], e = do(exact(parts(l)[i]), exact(parts(m)[i])).result()
		if e != api.OK {
			return api.Linear{}, e
		}
	}
	return made(c), api.OK
}

func sumAsSaid(list []api.Linear) (api.Linear, api.Errno) {
	sum := whole(0, 0, 0, 0)
	for _, l := range list {
		var e api.Errno
		sum, e = combined(sum, l, number.plus)
		if e != api.OK {
			return api.Linear{}, e
		}
	}
	return sum, api.OK
}

func checkAdd(t *testing.T, l, m, want api.Linear, e api.Errno) {
	t.Helper()
	if got, e2 := linear.Add(l, m); got != want || e2 != e {
		t.Errorf("Add(%v, %v): %v, %d, want %v, %d", l, m, got, e2, want, e)
	}
}

func checkSum(t *testing.T, list []api.Linear, want api.Linear, e api.Errno) {
	t.Helper()
	if got, e2 := linear.Sum(list); got != want || e2 != e {
		t.Errorf("Sum(%v): %v, %d, want %v, %d", list, got, e2, want, e)
	}
}

func checkScale(t *testing.T, l api.Linear, x api.Frac, want api.Linear, e api.Errno) {
	t.Helper()
	if got, e2 := linear.Scale(l, x); got != want || e2 != e {
		t.Errorf("Scale(%v, %v): %v, %d, want %v, %d", l, x, got, e2, want, e)
	}
}

func TestP4_1AddKnown(t *testing.T) {
	for _, c := range []struct{ l, m, want api.Linear }{
		{whole(0, 0, 0, 0), whole(0, 0, 0, 0), whole(0, 0, 0, 0)},
		{whole(1, 2, 3, 4), whole(0, 0, 0, 0), whole(1, 2, 3, 4)},
		{whole(1, 2, 3, 4), whole(10, 200, 3000, 40000), whole(11, 202, 3003, 40004)},
		{whole(1, 2, 3, 4), whole(-1, -2, -3, -4), whole(0, 0, 0, 0)},
		{whole(1, -2, 3, -4), whole(-5, 6, 7, -8), whole(-4, 4, 10, -12)},
		{line(f(1, 2), f(1, 3), f(1, 4), f(1, 6)), line(f(1, 2), f(1, 6), f(-1, 2), f(1, 10)), line(n(1), f(1, 2), f(-1, 4), f(4, 15))},
		{whole(most, -most, most-1, 1-most), whole(0, 0, 1, -1), whole(most, -most, most, -most)},
		{whole(most, most, most, most), whole(-most, -most, -most, -most), whole(0, 0, 0, 0)},
	} {
		checkAdd(t, c.l, c.m, c.want, api.OK)
		checkAdd(t, c.m, c.l, c.want, api.OK)
	}
}

// tooBig lists pairs of numbers whose sum is not representable.
func tooBig() [][2]api.Frac {
	return [][2]api.Frac{{n(most), n(1)}, {n(-most), n(-1)}, {n(most), f(-1, 3)}, {f(1, 1<<31), f(1, 1<<31+1)}}
}

// with returns a function with one coefficient changed.
func with(l api.Linear, place int, x api.Frac) api.Linear {
	c := parts(l)
	c[place] = x
	return made(c)
}

func TestP4_1AddTooBig(t *testing.T) {
	l, m := whole(1, 2, 3, 4), whole(5, 6, 7, 8)
	for place := range 4 {
		for _, x := range tooBig() {
			checkAdd(t, with(l, place, x[0]), with(m, place, x[1]), api.Linear{}, api.ErrBig)
			checkAdd(t, with(l, place, x[1]), with(m, place, x[0]), api.Linear{}, api.ErrBig)
		}
	}
}

func TestP4_1Add(t *testing.T) {
	var got outcomes
	eachMaker(func(m maker, _ *rand.Rand) {
		for range 10000 {
			l, k := m.function(), m.function()
			want, e := combined(l, k, number.plus)
			checkAdd(t, l, k, want, e)
			got.count(e)
		}
	})
	got.were(t, 5000)
}

func TestP4_1SumKnown(t *testing.T) {
	checkSum(t, nil, whole(0, 0, 0, 0), api.OK)
	checkSum(t, []api.Linear{}, whole(0, 0, 0, 0), api.OK)
	checkSum(t, []api.Linear{whole(1, -2, 3, -4)}, whole(1, -2, 3, -4), api.OK)
	checkSum(t, []api.Linear{whole(most, -most, 0, 1)}, whole(most, -most, 0, 1), api.OK)
	checkSum(t, []api.Linear{whole(1, 2, 3, 4), whole(10, 20, 30, 40), whole(100, 200, 300, 400), whole(0, 0, 0, -444)}, whole(111, 222, 333, 0), api.OK)
	thirds := line(f(1, 3), f(-2, 3), f(1, 6), n(0))
	checkSum(t, []api.Linear{thirds, thirds, thirds}, line(n(1), n(-2), f(1, 2), n(0)), api.OK)
	long := make([]api.Linear, 3000)
	for i := range long {
		long[i] = whole(i, 1, -i, 2)
	}
	checkSum(t, long, whole(4498500, 3000, -4498500, 6000), api.OK)
	checkSum(t, long[:2999], whole(4495501, 2999, -4495501, 5998), api.OK)
}

// A sum on the way is too big in these lists, but not in those in which the same functions have another order.
func TestP4_1SumOnTheWay(t *testing.T) {
	nothing := whole(0, 0, 0, 0)
	for place := range 4 {
		for _, x := range tooBig() {
			l, m := with(whole(1, 2, 3, 4), place, x[0]), with(whole(5, 6, 7, 8), place, x[1])
			back := with(nothing, place, f(-x[1].N, x[1].D))
			want := with(whole(6, 8, 10, 12), place, x[0])
			checkSum(t, []api.Linear{l, m}, api.Linear{}, api.ErrBig)
			checkSum(t, []api.Linear{l, m, back}, api.Linear{}, api.ErrBig)
			checkSum(t, []api.Linear{nothing, nothing, l, nothing, m, back, nothing}, api.Linear{}, api.ErrBig)
			checkSum(t, []api.Linear{back, m, l}, want, api.OK)
			checkSum(t, []api.Linear{m, back, nothing, l}, want, api.OK)
		}
	}
	up, down := whole(most, most, most, most), whole(-most, -most, -most, -most)
	checkSum(t, []api.Linear{up, down, up, down, up}, up, api.OK)
	checkSum(t, []api.Linear{up, down, up, up, down}, api.Linear{}, api.ErrBig)
}

func TestP4_1Sum(t *testing.T) {
	var got outcomes
	eachMaker(func(m maker, r *rand.Rand) {
		for range 5000 {
			list := make([]api.Linear, r.IntN(5))
			for i := range list {
				list[i] = m.function()
			}
			want, e := sumAsSaid(list)
			checkSum(t, list, want, e)
			got.count(e)
		}
	})
	got.were(t, 2000)
}

// Neither the list nor what is behind it in the same memory is changed.
func TestP4_1SumArgument(t *testing.T) {
	all := []api.Linear{whole(1, 2, 3, 4), whole(5, 6, 7, 8), whole(most, 0, 0, 0), whole(1, 0, 0, 0), whole(9, 9, 9, 9)}
	before := slices.Clone(all)
	for count := range len(all) + 1 {
		linear.Sum(all[:count])
		if !slices.Equal(all, before) {
			t.Errorf("the sum of %d functions changed them: %v", count, all)
		}
	}
}

func TestP4_1ScaleKnown(t *testing.T) {
	l := line(n(6), f(-3, 2), n(0), f(2, 9))
	for _, c := range []struct {
		x    api.Frac
		want api.Linear
	}{
		{n(0), whole(0, 0, 0, 0)},
		{n(1), l},
		{n(-1), line(n(-6), f(3, 2), n(0), f(-2, 9))},
		{n(2), line(n(12), n(-3), n(0), f(4, 9))},
		{f(1, 2), line(n(3), f(-3, 4), n(0), f(1, 9))},
		{f(-2, 3), line(n(-4), n(1), n(0), f(-4, 27))},
		{f(1, 6), line(n(1), f(-1, 4), n(0), f(1, 27))},
		{f(9, 2), line(n(27), f(-27, 4), n(0), n(1))},
	} {
		checkScale(t, l, c.x, c.want, api.OK)
	}
	checkScale(t, whole(1, -1, 0, 1), n(most), whole(most, -most, 0, most), api.OK)
	checkScale(t, whole(most, most, most, -most), f(1, most), whole(1, 1, 1, -1), api.OK)
	checkScale(t, whole(most, -most, most/2, 2), n(-1), whole(-most, most, -most/2, -2), api.OK)
	checkScale(t, whole(most, -most, most, -most), n(0), whole(0, 0, 0, 0), api.OK)
}

func TestP4_1ScaleTooBig(t *testing.T) {
	for place := range 4 {
		for _, x := range [][2]api.Frac{{n(most), n(2)}, {n(-most), n(2)}, {n(2), n(-most)}, {n(most/2 + 1), n(-2)}, {f(1, most), f(1, 2)}, {n(1 << 32), n(1 << 32)}, {n(most), f(4, 3)}} {
			checkScale(t, with(whole(0, 0, 0, 0), place, x[0]), x[1], api.Linear{}, api.ErrBig)
		}
	}
}

func TestP4_1Scale(t *testing.T) {
	var got outcomes
	eachMaker(func(m maker, _ *rand.Rand) {
		for range 10000 {
			l, x := m.function(), m()
			want, e := combined(l, line(x, x, x, x), number.times)
			checkScale(t, l, x, want, e)
			got.count(e)
		}
	})
	got.were(t, 5000)
}
