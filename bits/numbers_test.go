package bits_test

import (
	"math"
	"math/big"
	"math/rand/v2"
	"slices"
	"testing"

	"wireloom/bits"
)

// outside is numbers of bits for which there is no mask, and which nothing is split into.
var outside = []int{math.MinInt, math.MinInt + 1, -1 << 32, -64, -63, -62, -2, -1, 63, 64, 65, 127, 128, 1 << 32, 1<<32 + 1, 1 << 62, math.MaxInt}

// someNumbers is numbers with all kinds of bits.
func someNumbers(r *rand.Rand) []int {
	l := []int{0, 1, 2, 3, 6, -1, -2, -3, math.MaxInt, math.MinInt, math.MaxInt - 1, math.MinInt + 1, 0x5555555555555555, -0x5555555555555556}
	for k := range 63 {
		l = append(l, 1<<k, -1<<k, 1<<k-1)
	}
	for range 300 {
		l = append(l, int(r.Uint64())>>r.IntN(64))
	}
	return l
}

// lowestAsSaid is the w lowest bits of v in two's complement, by remainders of numbers of any size.
func lowestAsSaid(v, w int) []bool {
	two := big.NewInt(2)
	rest := new(big.Int).Mod(big.NewInt(int64(v)), new(big.Int).Exp(two, big.NewInt(int64(w)), nil))
	l := make([]bool, w)
	for i := range l {
		var bit big.Int
		rest.DivMod(rest, two, &bit)
		l[i] = bit.Sign() > 0
	}
	return l
}

// joinedAsSaid is the sum of the weights of the bits, of the first 62.
func joinedAsSaid(l []bool) int {
	v := 0
	for i, bit := range l {
		if bit && i < 62 {
			v += power(i)
		}
	}
	return v
}

func someBits(r *rand.Rand, n int) []bool {
	l := make([]bool, n)
	for i := range l {
		l[i] = r.IntN(2) == 1
	}
	return l
}

func TestP7_1Mask(t *testing.T) {
	want := 0
	for w := range 63 {
		if got := bits.Mask(w); got != want {
			t.Errorf("Mask(%d): %d, want %d", w, got, want)
		}
		want = 2*want + 1
	}
	for _, w := range outside {
		if got := bits.Mask(w); got != 0 {
			t.Errorf("Mask(%d): %d", w, got)
		}
	}
	if got := bits.Mask(62); got != 4611686018427387903 {
		t.Errorf("Mask(62): %d", got)
	}
}

func TestP7_1Split(t *testing.T) {
	for _, v := range someNumbers(source()) {
		for w := range 63 {
			if got, want := bits.Split(v, w), lowestAsSaid(v, w); !slices.Equal(got, want) {
				t.Errorf("Split(%d, %d): %v, want %v", v, w, got, want)
			}
		}
		for _, w := range outside {
			if got := bits.Split(v, w); len(got) != 0 {
				t.Errorf("Split(%d, %d): %v", v, w, got)
			}
		}
	}
}

func TestP7_1SplitKnown(t *testing.T) {
	const o, i = false, true
	for _, c := range []struct {
		v, w int
		want []bool
	}{
		{5, 0, nil},
		{1, 1, []bool{i}},
		{2, 1, []bool{o}},
		{1, 3, []bool{i, o, o}},
		{13, 4, []bool{i, o, i, i}},
		{13, 2, []bool{i, o}},
		{-2, 3, []bool{o, i, i}},
		{-5, 4, []bool{i, i, o, i}},
		{math.MinInt, 3, []bool{o, o, o}},
		{math.MaxInt, 3, []bool{i, i, i}},
	} {
		if got := bits.Split(c.v, c.w); !slices.Equal(got, c.want) {
			t.Errorf("Split(%d, %d): %v", c.v, c.w, got)
		}
	}
}

func TestP7_1Join(t *testing.T) {
	r := source()
	for n := range 200 {
		for range 20 {
			l := someBits(r, n)
			if got, want := bits.Join(l), joinedAsSaid(l); got != want {
				t.Errorf("Join(%v): %d, want %d", l, got, want)
			}
		}
		only := make([]bool, n+1)
		only[n] = true
		if got, want := bits.Join(only), joinedAsSaid(only); got != want {
			t.Errorf("Join of a 1 behind %d zeros: %d, want %d", n, got, want)
		}
		if got, want := bits.Join(slices.Repeat([]bool{true}, n)), power(min(n, 62))-1; got != want {
			t.Errorf("Join of %d ones: %d, want %d", n, got, want)
		}
	}
	if got := bits.Join(nil); got != 0 {
		t.Errorf("Join of no bits: %d", got)
	}
}

func TestP7_6JoinOfSplit(t *testing.T) {
	for _, v := range someNumbers(source()) {
		for w := range 63 {
			got := bits.Join(bits.Split(v, w))
			if want := ((v % power(w)) + power(w)) % power(w); got != want {
				t.Errorf("%d, %d bits: Join of Split is %d, want %d", v, w, got, want)
			}
		}
	}
	for w := range 9 {
		for v := range power(w) {
			if got := bits.Join(bits.Split(v, w)); got != v {
				t.Errorf("%d, %d bits: Join of Split is %d", v, w, got)
			}
		}
	}
}

func TestP7_6SplitOfJoin(t *testing.T) {
	r := source()
	for n := range 63 {
		for range 50 {
			l := someBits(r, n)
			if got := bits.Split(bits.Join(l), n); !slices.Equal(got, l) {
				t.Errorf("Split of Join of %v: %v", l, got)
			}
		}
	}
}
