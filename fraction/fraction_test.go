package fraction_test

import (
	"math"
	"math/big"
	"math/rand/v2"
	"testing"

	"wireloom/api"
	"wireloom/fraction"
)

const most = 1 << 62

func f(n, d int) api.Frac { return api.Frac{N: n, D: d} }

func source() *rand.Rand { return rand.New(rand.NewPCG(2, 54)) }

// operation is an operation of the package, and what it computes without limits.
type operation struct {
	name string
	do   func(a, b api.Frac) (api.Frac, api.Errno)
	said func(z, x, y *big.Rat) *big.Rat
}

var operations = []operation{
	{"Add", fraction.Add, (*big.Rat).Add},
	{"Sub", fraction.Sub, (*big.Rat).Sub},
	{"Mul", fraction.Mul, (*big.Rat).Mul},
	{"Div", fraction.Div, (*big.Rat).Quo},
}

// asSaid returns the result of an operation as the chapter says it.
func (o operation) asSaid(a, b api.Frac) (api.Frac, api.Errno) {
	if o.name == "Div" && b.N == 0 {
		return api.Frac{}, api.ErrZero
	}
	return representing(o.said(new(big.Rat), rational(a), rational(b)))
}

func rational(a api.Frac) *big.Rat { return big.NewRat(int64(a.N), int64(a.D)) }

// representing returns the valid fraction of a rational number, if it is representable.
func representing(r *big.Rat) (api.Frac, api.Errno) {
	limit := big.NewInt(most)
	if r.Num().CmpAbs(limit) > 0 || r.Denom().Cmp(limit) > 0 {
		return api.Frac{}, api.ErrBig
	}
	return f(int(r.Num().Int64()), int(r.Denom().Int64())), api.OK
}

// divisor returns the greatest common divisor of two numbers that are not both 0.
func divisor(n, d int) *big.Int {
	return new(big.Int).GCD(nil, nil, new(big.Int).Abs(big.NewInt(int64(n))), new(big.Int).Abs(big.NewInt(int64(d))))
}

// sizes are denominators: small ones, ones about the square root of the greatest one, and great ones.
func sizes() []int {
	return []int{1, 2, 3, 4, 6, 10, 1 << 31, 1<<31 - 1, 1<<31 + 1, 1 << 61, (most - 1) / 3, most - 2, most - 1, most}
}

// fractions lists all valid fractions with 0 and these sizes.
func fractions() []api.Frac {
	l := []api.Frac{f(0, 1)}
	for _, n := range sizes() {
		for _, d := range sizes() {
			if divisor(n, d).Int64() == 1 {
				l = append(l, f(n, d), f(-n, d))
			}
		}
	}
	return l
}

// someFraction returns a valid fraction whose numerator and denominator have some number of bits each.
func someFraction(r *rand.Rand) api.Frac {
	for {
		n, d := r.IntN(most+1)>>r.IntN(63), r.IntN(most+1)>>r.IntN(63)
		if r.IntN(2) == 0 {
			n = -n
		}
		if d != 0 && divisor(n, d).Int64() == 1 {
			return f(n, d)
		}
	}
}

// eachPair calls g for each pair of the listed fractions, and for some pairs of random ones.
func eachPair(g func(a, b api.Frac)) {
	l, r := fractions(), source()
	for _, a := range l {
		for _, b := range l {
			g(a, b)
		}
	}
	for range 5000 {
		g(someFraction(r), someFraction(r))
	}
}

// eachFraction calls g for each of the listed fractions, and for some random ones.
func eachFraction(g func(a api.Frac)) {
	r := source()
	for _, a := range fractions() {
		g(a)
	}
	for range 2000 {
		g(someFraction(r))
	}
}

// integers lists integers at the ends of several ranges.
func integers() []int {
	l := []int{0, math.MinInt, math.MinInt + 1, math.MaxInt, math.MaxInt - 1, most + 1, -most - 1}
	for _, n := range append(sizes(), 5, 7, 12) {
		l = append(l, n, -n)
	}
	return l
}

func TestP2_1Examples(t *testing.T) {
	for _, c := range []struct {
		name string
		do   func(a, b api.Frac) (api.Frac, api.Errno)
		a, b api.Frac
		want api.Frac
		e    api.Errno
	}{
		{"Add", fraction.Add, f(1, 6), f(1, 10), f(4, 15), api.OK},
		{"Div", fraction.Div, f(3, 4), f(-9, 2), f(-1, 6), api.OK},
		{"Add", fraction.Add, f(most, 1), f(1, 1), f(0, 0), api.ErrBig},
		{"Add", fraction.Add, f(most, 1), f(-1, 3), f(0, 0), api.ErrBig},
		{"Mul", fraction.Mul, f(most, 1), f(1, most), f(1, 1), api.OK},
	} {
		if got, e := c.do(c.a, c.b); got != c.want || e != c.e {
			t.Errorf("%s(%v, %v): %v, %d", c.name, c.a, c.b, got, e)
		}
	}
	if a := f(-3, 2); fraction.Floor(a) != -2 || fraction.Ceil(a) != -1 {
		t.Errorf("%v lies between %d and %d", a, fraction.Floor(a), fraction.Ceil(a))
	}
	if m := fraction.Min(f(1, 6), f(1, 10)); m != f(1, 10) {
		t.Errorf("Min: %v", m)
	}
	if s := fraction.Text(f(-3, 2)); s != "-3/2" {
		t.Errorf("Text: %q", s)
	}
	if s := fraction.Text(f(5, 1)); s != "5" {
		t.Errorf("Text: %q", s)
	}
	for _, s := range []string{"4/2", "1/1", "-0", "+1"} {
		if a, e := fraction.Parse(s); a != f(0, 0) || e != api.ErrForm {
			t.Errorf("Parse(%q): %v, %d", s, a, e)
		}
	}
}

func TestP2_1MakeExamples(t *testing.T) {
	for _, c := range []struct {
		n, d int
		want api.Frac
		e    api.Errno
	}{
		{6, -4, f(-3, 2), api.OK},
		{0, 5, f(0, 1), api.OK},
		{1, 0, f(0, 0), api.ErrZero},
		{0, 0, f(0, 0), api.ErrZero},
		{math.MinInt, 0, f(0, 0), api.ErrZero},
		{0, math.MinInt, f(0, 1), api.OK},
		{math.MinInt, math.MinInt, f(1, 1), api.OK},
		{math.MinInt, -1, f(0, 0), api.ErrBig},
		{math.MinInt, -2, f(most, 1), api.OK},
		{2, math.MinInt, f(-1, most), api.OK},
		{3, math.MinInt, f(0, 0), api.ErrBig},
		{most + 1, 1, f(0, 0), api.ErrBig},
		{1, most + 1, f(0, 0), api.ErrBig},
		{most + 1, most + 1, f(1, 1), api.OK},
	} {
		if got, e := fraction.Make(c.n, c.d); got != c.want || e != c.e {
			t.Errorf("Make(%d, %d): %v, %d", c.n, c.d, got, e)
		}
	}
}

func TestP2_1Make(t *testing.T) {
	for _, n := range integers() {
		for _, d := range integers() {
			want, wantError := api.Frac{}, api.ErrZero
			if d != 0 {
				want, wantError = representing(rational(f(n, d)))
			}
			if got, e := fraction.Make(n, d); got != want || e != wantError {
				t.Errorf("Make(%d, %d): %v, %d", n, d, got, e)
			}
		}
	}
}

func TestP2_1Valid(t *testing.T) {
	for _, n := range integers() {
		for _, d := range integers() {
			want := d >= 1 && d <= most && n >= -most && n <= most && divisor(n, d).Int64() == 1
			if fraction.Valid(f(n, d)) != want {
				t.Errorf("Valid(%d / %d): %v", n, d, !want)
			}
		}
	}
}

func TestP2_1Operations(t *testing.T) {
	eachPair(func(a, b api.Frac) {
		for _, o := range operations {
			want, wantError := o.asSaid(a, b)
			if got, e := o.do(a, b); got != want || e != wantError {
				t.Errorf("%s(%v, %v): %v, %d, want %v, %d", o.name, a, b, got, e, want, wantError)
			}
		}
	})
}

func TestP2_1DivByZero(t *testing.T) {
	eachFraction(func(a api.Frac) {
		if got, e := fraction.Div(a, f(0, 1)); got != f(0, 0) || e != api.ErrZero {
			t.Errorf("Div(%v, 0): %v, %d", a, got, e)
		}
	})
}

func TestP2_1Order(t *testing.T) {
	eachPair(func(a, b api.Frac) {
		want := rational(a).Cmp(rational(b))
		if got := fraction.Cmp(a, b); got != want {
			t.Errorf("Cmp(%v, %v): %d", a, b, got)
		}
		least, greatest := a, b
		if want > 0 {
			least, greatest = b, a
		}
		if fraction.Min(a, b) != least || fraction.Max(a, b) != greatest {
			t.Errorf("Min and Max of %v and %v: %v, %v", a, b, fraction.Min(a, b), fraction.Max(a, b))
		}
	})
}

func TestP2_1Rounds(t *testing.T) {
	eachFraction(func(a api.Frac) {
		n, d := big.NewInt(int64(a.N)), big.NewInt(int64(a.D))
		floor := new(big.Int).Div(n, d) // rounds downwards, since d is positive
		ceil := new(big.Int).Neg(new(big.Int).Div(new(big.Int).Neg(n), d))
		if fraction.Floor(a) != int(floor.Int64()) || fraction.Ceil(a) != int(ceil.Int64()) {
			t.Errorf("%v: %d, %d", a, fraction.Floor(a), fraction.Ceil(a))
		}
	})
}

func TestP2_1Texts(t *testing.T) {
	eachFraction(func(a api.Frac) {
		if s := fraction.Text(a); s != rational(a).RatString() {
			t.Errorf("Text(%v): %q", a, s)
		}
	})
}

// What is not valid has unspecified results, but it stops no caller.
func TestP1NoPanic(t *testing.T) {
	var l []api.Frac
	for _, n := range integers() {
		for _, d := range []int{math.MinInt, -most, -3, -1, 0, 1, 4, most, math.MaxInt} {
			l = append(l, f(n, d))
		}
	}
	for _, a := range l {
		fraction.Floor(a)
		fraction.Ceil(a)
		fraction.Parse(fraction.Text(a))
		for _, b := range l {
			fraction.Cmp(a, b)
			fraction.Min(a, b)
			fraction.Max(a, b)
			for _, o := range operations {
				o.do(a, b)
			}
		}
	}
}
