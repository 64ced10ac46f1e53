package fraction_test

import (
	"testing"

	"wireloom/api"
	"wireloom/fraction"
)

// Pairs whose result is as great as it may be, beside pairs whose result is a little greater.
func TestP2_7Ends(t *testing.T) {
	big := f(0, 0)
	for _, c := range []struct {
		name string
		do   func(a, b api.Frac) (api.Frac, api.Errno)
		a, b api.Frac
		want api.Frac
	}{
		{"Add", fraction.Add, f(most-1, 1), f(1, 1), f(most, 1)},
		{"Add", fraction.Add, f(most, 1), f(1, 1), big},
		{"Add", fraction.Add, f(1-most, 1), f(-1, 1), f(-most, 1)},
		{"Add", fraction.Add, f(-most, 1), f(-1, 1), big},
		{"Add", fraction.Add, f(most, 1), f(most, 1), big},
		{"Add", fraction.Add, f(-most, 1), f(-most, 1), big},
		{"Add", fraction.Add, f(most-1, 5), f(1, 5), f(most, 5)},
		{"Add", fraction.Add, f(most, 5), f(2, 5), big},
		{"Add", fraction.Add, f(most, 5), f(1, 5), f(most/5+1, 1)},
		{"Add", fraction.Add, f(1, 1<<31), f(1, 1<<31-1), f(1<<32-1, 1<<31*(1<<31-1))},
		{"Add", fraction.Add, f(1, 1<<31), f(1, 1<<31+1), big},
		{"Sub", fraction.Sub, f(most-1, 1), f(-1, 1), f(most, 1)},
		{"Sub", fraction.Sub, f(most, 1), f(-1, 1), big},
		{"Sub", fraction.Sub, f(1-most, 1), f(1, 1), f(-most, 1)},
		{"Sub", fraction.Sub, f(-most, 1), f(1, 1), big},
		{"Sub", fraction.Sub, f(-most, 1), f(most, 1), big},
		{"Sub", fraction.Sub, f(0, 1), f(-most, 1), f(most, 1)},
		{"Mul", fraction.Mul, f(most/2, 1), f(2, 1), f(most, 1)},
		{"Mul", fraction.Mul, f(most/2, 1), f(-2, 1), f(-most, 1)},
		{"Mul", fraction.Mul, f(most/2+1, 1), f(2, 1), big},
		{"Mul", fraction.Mul, f(most/2+1, 1), f(-2, 1), big},
		{"Mul", fraction.Mul, f(1, most/2), f(1, 2), f(1, most)},
		{"Mul", fraction.Mul, f(1, most), f(1, 2), big},
		{"Mul", fraction.Mul, f(1, 1<<31+1), f(1, 1<<31), big},
		{"Mul", fraction.Mul, f(1<<32, 1), f(1<<32, 1), big},  // 2^64, whose lower half is 0
		{"Mul", fraction.Mul, f(-1<<33, 1), f(1<<33, 1), big}, // the same
		{"Mul", fraction.Mul, f(1, 1<<32), f(1, 1<<32), big},
		{"Mul", fraction.Mul, f(-most, 1), f(-most, 1), big},
		{"Div", fraction.Div, f(most, 1), f(1, 1), f(most, 1)},
		{"Div", fraction.Div, f(most/2, 1), f(-1, 2), f(-most, 1)},
		{"Div", fraction.Div, f(most, 1), f(1, 2), big},
		{"Div", fraction.Div, f(1, 1), f(-most, 1), f(-1, most)},
		{"Div", fraction.Div, f(1, 2), f(most, 1), big},
		{"Div", fraction.Div, f(1, most), f(most, 1), big},
	} {
		wantError := api.OK
		if c.want == big {
			wantError = api.ErrBig
		}
		if got, e := c.do(c.a, c.b); got != c.want || e != wantError {
			t.Errorf("%s(%v, %v): %v, %d, want %v, %d", c.name, c.a, c.b, got, e, c.want, wantError)
		}
	}
}

// Intermediate numbers do not fit here, but the results do.
func TestP2_7Intermediate(t *testing.T) {
	for _, c := range []struct {
		name string
		do   func(a, b api.Frac) (api.Frac, api.Errno)
		a, b api.Frac
		want api.Frac
	}{
		{"Add", fraction.Add, f(1, most), f(1, most), f(1, most/2)},
		{"Add", fraction.Add, f(most-1, most), f(1, most), f(1, 1)},
		{"Add", fraction.Add, f(1-most, most), f(-1, most), f(-1, 1)},
		{"Add", fraction.Add, f(most-1, most), f(1-most, most), f(0, 1)},
		{"Add", fraction.Add, f(most, most-1), f(most-2, most-1), f(2, 1)},
		{"Add", fraction.Add, f(1, 3<<59), f(1, 3<<60), f(1, 1<<60)},
		{"Sub", fraction.Sub, f(most, most-1), f(1, most-1), f(1, 1)},
		{"Sub", fraction.Sub, f(most, 1), f(most, 1), f(0, 1)},
		{"Sub", fraction.Sub, f(1, 5<<59), f(1, 5<<58), f(-1, 5<<59)},
		{"Mul", fraction.Mul, f(most, 3), f(3, most), f(1, 1)},
		{"Mul", fraction.Mul, f(most-1, most), f(most, most-1), f(1, 1)},
		{"Mul", fraction.Mul, f(-most, most-1), f(most-1, 2), f(-most/2, 1)},
		{"Mul", fraction.Mul, f(0, 1), f(most-1, most), f(0, 1)},
		{"Div", fraction.Div, f(most, most-1), f(most, most-1), f(1, 1)},
		{"Div", fraction.Div, f(-1, most), f(1, most), f(-1, 1)},
		{"Div", fraction.Div, f(most, 7), f(-most, 3), f(-3, 7)},
	} {
		if got, e := c.do(c.a, c.b); got != c.want || e != api.OK {
			t.Errorf("%s(%v, %v): %v, %d, want %v", c.name, c.a, c.b, got, e, c.want)
		}
	}
}

func TestP2_7Refused(t *testing.T) {
	accepted, refused := map[string]int{}, map[string]int{}
	eachPair(func(a, b api.Frac) {
		for _, o := range operations {
			_, want := o.asSaid(a, b)
			_, e := o.do(a, b)
			if e != want {
				t.Errorf("%s(%v, %v): %d, want %d", o.name, a, b, e, want)
			}
			if want == api.OK {
				accepted[o.name]++
			} else if want == api.ErrBig {
				refused[o.name]++
			}
		}
	})
	for _, o := range operations {
		if accepted[o.name] < 1000 || refused[o.name] < 1000 {
			t.Errorf("%s: only %d accepted and %d refused results", o.name, accepted[o.name], refused[o.name])
		}
	}
}
