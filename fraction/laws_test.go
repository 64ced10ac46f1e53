package fraction_test

import (
	"testing"

	"wireloom/api"
	"wireloom/fraction"
)

// chain computes with fractions as long as the results are representable.
type chain struct {
	a  api.Frac
	ok bool
}

func from(a api.Frac) chain { return chain{a, true} }

func (c chain) then(do func(a, b api.Frac) (api.Frac, api.Errno), d chain) chain {
	if !c.ok || !d.ok {
		return chain{}
	}
	a, e := do(c.a, d.a)
	return chain{a, e == api.OK}
}

func (c chain) plus(d chain) chain  { return c.then(fraction.Add, d) }
func (c chain) times(d chain) chain { return c.then(fraction.Mul, d) }

// eachTriple calls g for triples of small fractions, of listed ones, and of random ones.
func eachTriple(g func(a, b, c api.Frac)) {
	l, r := fractions(), source()
	small := func() api.Frac {
		a, _ := fraction.Make(r.IntN(41)-20, 1+r.IntN(20))
		return a
	}
	for range 20000 {
		g(small(), small(), small())
		g(l[r.IntN(len(l))], l[r.IntN(len(l))], l[r.IntN(len(l))])
		g(l[r.IntN(len(l))], small(), l[r.IntN(len(l))])
		g(someFraction(r), someFraction(r), someFraction(r))
	}
}

// law counts how often both sides of an equation could be computed, and fails if they differ.
type law struct {
	t     *testing.T
	name  string
	count int
}

func (w *law) holds(left, right chain, of ...api.Frac) {
	if !left.ok || !right.ok {
		return
	}
	w.count++
	if left.a != right.a {
		w.t.Errorf("%s of %v: %v, %v", w.name, of, left.a, right.a)
	}
}

// wasTested fails if a law was hardly ever tested, because results were refused.
func (w *law) wasTested() {
	if w.count < 20000 {
		w.t.Errorf("%s: only %d cases", w.name, w.count)
	}
}

func TestP2_2Commutative(t *testing.T) {
	eachPair(func(a, b api.Frac) {
		for _, o := range operations {
			if o.name != "Add" && o.name != "Mul" {
				continue
			}
			x, e := o.do(a, b)
			y, e2 := o.do(b, a)
			if x != y || e != e2 {
				t.Errorf("%s of %v and %v: %v, %d and %v, %d", o.name, a, b, x, e, y, e2)
			}
		}
	})
}

func TestP2_2Associative(t *testing.T) {
	sums, products := law{t: t, name: "sum"}, law{t: t, name: "product"}
	eachTriple(func(a, b, c api.Frac) {
		x, y, z := from(a), from(b), from(c)
		sums.holds(x.plus(y).plus(z), x.plus(y.plus(z)), a, b, c)
		products.holds(x.times(y).times(z), x.times(y.times(z)), a, b, c)
	})
	sums.wasTested()
	products.wasTested()
}

func TestP2_2Distributive(t *testing.T) {
	w := law{t: t, name: "product of a sum"}
	eachTriple(func(a, b, c api.Frac) {
		x, y, z := from(a), from(b), from(c)
		w.holds(x.times(y.plus(z)), x.times(y).plus(x.times(z)), a, b, c)
	})
	w.wasTested()
}

// An inverse leads back to an argument, which is representable, so that it must not be refused.
func TestP2_2Inverse(t *testing.T) {
	back := func(name string, a, b api.Frac, do, undo func(a, b api.Frac) (api.Frac, api.Errno)) {
		there, e := do(a, b)
		if e != api.OK {
			return
		}
		if again, e := undo(there, b); again != a || e != api.OK {
			t.Errorf("%s of %v and %v, back: %v, %d", name, a, b, again, e)
		}
	}
	eachPair(func(a, b api.Frac) {
		back("Add", a, b, fraction.Add, fraction.Sub)
		back("Sub", a, b, fraction.Sub, fraction.Add)
		if b.N != 0 {
			back("Mul", a, b, fraction.Mul, fraction.Div)
			back("Div", a, b, fraction.Div, fraction.Mul)
		}
	})
}

func TestP2_2Neutral(t *testing.T) {
	eachFraction(func(a api.Frac) {
		for _, c := range []struct {
			do   func(a, b api.Frac) (api.Frac, api.Errno)
			b    api.Frac
			want api.Frac
		}{
			{fraction.Add, f(0, 1), a},
			{fraction.Sub, f(0, 1), a},
			{fraction.Sub, a, f(0, 1)},
			{fraction.Mul, f(1, 1), a},
			{fraction.Mul, f(0, 1), f(0, 1)},
			{fraction.Div, f(1, 1), a},
		} {
			if got, e := c.do(a, c.b); got != c.want || e != api.OK {
				t.Errorf("%v with %v: %v, %d, want %v", a, c.b, got, e, c.want)
			}
		}
	})
}

func TestP2_3Total(t *testing.T) {
	eachPair(func(a, b api.Frac) {
		order := fraction.Cmp(a, b)
		if order != -fraction.Cmp(b, a) || (order == 0) != (a == b) || order < -1 || order > 1 {
			t.Errorf("%v and %v: %d, %d", a, b, order, fraction.Cmp(b, a))
		}
	})
}

func TestP2_3Transitive(t *testing.T) {
	eachTriple(func(a, b, c api.Frac) {
		if fraction.Cmp(a, b) <= 0 && fraction.Cmp(b, c) <= 0 && fraction.Cmp(a, c) > 0 {
			t.Errorf("%v, %v and %v are in a circle", a, b, c)
		}
	})
}

func TestP2_3Preserved(t *testing.T) {
	count := 0
	preserved := func(a, b, c api.Frac, x, y chain) {
		if !x.ok || !y.ok {
			return
		}
		count++
		if fraction.Cmp(x.a, y.a) != fraction.Cmp(a, b) {
			t.Errorf("%v and %v with %v: %v and %v", a, b, c, x.a, y.a)
		}
	}
	eachTriple(func(a, b, c api.Frac) {
		x, y, z := from(a), from(b), from(c)
		preserved(a, b, c, x.plus(z), y.plus(z))
		if c.N > 0 {
			preserved(a, b, c, x.times(z), y.times(z))
		}
	})
	if count < 20000 {
		t.Errorf("only %d cases", count)
	}
}

func TestP2_3LeastAndGreatest(t *testing.T) {
	eachPair(func(a, b api.Frac) {
		least, greatest := fraction.Min(a, b), fraction.Max(a, b)
		if (least != a || greatest != b) && (least != b || greatest != a) {
			t.Errorf("Min and Max of %v and %v: %v, %v", a, b, least, greatest)
		}
		if fraction.Cmp(least, greatest) > 0 {
			t.Errorf("Min of %v and %v is greater than Max", a, b)
		}
	})
}

func TestP2_4Valid(t *testing.T) {
	canonical := func(name string, got api.Frac, e api.Errno) {
		if e != api.OK && got != f(0, 0) || e == api.OK && (got.D < 1 || got.D > most || got.N < -most || got.N > most || divisor(got.N, got.D).Int64() != 1) {
			t.Errorf("%s: %v, %d", name, got, e)
		}
		if fraction.Valid(got) != (e == api.OK) {
			t.Errorf("Valid(%v), a result with the error %d: %v", got, e, e != api.OK)
		}
	}
	eachPair(func(a, b api.Frac) {
		for _, o := range operations {
			got, e := o.do(a, b)
			canonical(o.name, got, e)
		}
		if !fraction.Valid(fraction.Min(a, b)) || !fraction.Valid(fraction.Max(a, b)) {
			t.Errorf("Min and Max of %v and %v", a, b)
		}
	})
	for _, n := range integers() {
		for _, d := range integers() {
			got, e := fraction.Make(n, d)
			canonical("Make", got, e)
		}
	}
}

func TestP2_4Equal(t *testing.T) {
	r := source()
	for range 20000 {
		n, d := r.IntN(1<<30)-1<<29, 1+r.IntN(1<<30)
		k := 1 + r.IntN(1<<30)
		a, _ := fraction.Make(n, d)
		for _, x := range [][2]int{{n * k, d * k}, {-n, -d}, {-n * k, -d * k}} {
			if b, e := fraction.Make(x[0], x[1]); b != a || e != api.OK {
				t.Errorf("%d / %d and %d / %d: %v and %v, %d", n, d, x[0], x[1], a, b, e)
			}
		}
		if b, e := fraction.Div(f(n, 1), f(d, 1)); b != a || e != api.OK {
			t.Errorf("%d divided by %d: %v, %d", n, d, b, e)
		}
	}
}

func TestP2_5Between(t *testing.T) {
	eachFraction(func(a api.Frac) {
		floor, ceil := fraction.Floor(a), fraction.Ceil(a)
		if fraction.Cmp(f(floor, 1), a) > 0 || fraction.Cmp(a, f(ceil, 1)) > 0 {
			t.Errorf("%v is not between %d and %d", a, floor, ceil)
		}
		apart := 1
		if a.D == 1 {
			apart = 0
		}
		if ceil-floor != apart {
			t.Errorf("%v is between %d and %d", a, floor, ceil)
		}
	})
}

func TestP2_5Known(t *testing.T) {
	for _, c := range []struct {
		a           api.Frac
		floor, ceil int
	}{
		{f(0, 1), 0, 0},
		{f(1, most), 0, 1},
		{f(-1, most), -1, 0},
		{f(most, 1), most, most},
		{f(-most, 1), -most, -most},
		{f(most-1, 2), most/2 - 1, most / 2},
		{f(1-most, 2), -most / 2, 1 - most/2},
		{f(7, 3), 2, 3},
		{f(-7, 3), -3, -2},
		{f(6, 1), 6, 6},
		{f(-6, 1), -6, -6},
	} {
		if fraction.Floor(c.a) != c.floor || fraction.Ceil(c.a) != c.ceil {
			t.Errorf("%v: %d, %d", c.a, fraction.Floor(c.a), fraction.Ceil(c.a))
		}
	}
}
