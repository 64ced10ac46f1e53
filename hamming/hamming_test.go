package hamming_test

import (
	"math"
	"math/rand/v2"
	"testing"

	"wireloom/api"
	"wireloom/hamming"
)

const allData = 1<<57 - 1

func source() *rand.Rand { return rand.New(rand.NewPCG(3, 54)) }

// eachData calls f for the data bits at the ends of the range, with one 1 or one 0, and for some random ones.
func eachData(f func(data uint64)) {
	r := source()
	f(0)
	f(allData)
	for k := range 57 {
		f(1 << k)
		f(allData ^ 1<<k)
	}
	for range 200 {
		f(someData(r))
	}
}

// someData returns data bits, some number of which are chosen.
func someData(r *rand.Rand) uint64 { return r.Uint64() >> (7 + r.IntN(57)) }

// eachWord calls f for all words with at most three ones or at most three zeros, for some code words, and for some random words.
func eachWord(f func(word uint64)) {
	f(0)
	f(math.MaxUint64)
	for i := range 64 {
		for j := range i + 1 {
			for k := range j + 1 {
				few := uint64(1)<<i | 1<<j | 1<<k // fewer than three, if some are equal
				f(few)
				f(^few)
			}
		}
	}
	r := source()
	for range 1000 {
		f(codeWordsAsSaid(someData(r))[0])
	}
	for range 4000 {
		f(r.Uint64())
		f(r.Uint64() & r.Uint64() & r.Uint64())
	}
}

// encoded returns the code word of data that are not refused.
func encoded(t *testing.T, data uint64) uint64 {
	t.Helper()
	word, e := hamming.Encode(data)
	if e != api.OK {
		t.Fatalf("Encode(%x): error %d", data, e)
	}
	return word
}

// checkDecode compares all results of Decode.
func checkDecode(t *testing.T, word, data uint64, inverted int, e api.Errno) {
	t.Helper()
	if d, n, got := hamming.Decode(word); d != data || n != inverted || got != e {
		t.Errorf("Decode(%x): %x, %d, %d, want %x, %d, %d", word, d, n, got, data, inverted, e)
	}
}

func bit(word uint64, position int) int { return int(word >> position & 1) }

// holdsParity says where parity bits are, position by position.
func holdsParity(position int) bool {
	switch position {
	case 0, 1, 2, 4, 8, 16, 32:
		return true
	}
	return false
}

// isCodeWord is the chapter's definition.
func isCodeWord(word uint64) bool { return syndromeAsSaid(word) == 0 && onesAsSaid(word)%2 == 0 }

func syndromeAsSaid(word uint64) int {
	s := 0
	for p := range 64 {
		s ^= p * bit(word, p)
	}
	return s
}

func onesAsSaid(word uint64) int {
	n := 0
	for p := range 64 {
		n += bit(word, p)
	}
	return n
}

// dataAsSaid collects the data bits of a word in order.
func dataAsSaid(word uint64) uint64 {
	var data uint64
	k := 0
	for p := range 64 {
		if !holdsParity(p) {
			data |= uint64(bit(word, p)) << k
			k++
		}
	}
	return data
}

// codeWordsAsSaid returns all code words with given data bits: it tries all parity bits.
func codeWordsAsSaid(data uint64) []uint64 {
	var word uint64
	k := 0
	for p := range 64 {
		if !holdsParity(p) {
			word |= uint64(bit(data, k)) << p
			k++
		}
	}
	var l []uint64
	for try := range uint64(128) {
		w := word | try&1 | try>>1&1<<1 | try>>2&1<<2 | try>>3&1<<4 | try>>4&1<<8 | try>>5&1<<16 | try>>6&1<<32
		if isCodeWord(w) {
			l = append(l, w)
		}
	}
	return l
}

// checkAsSaid is Check as C2 says it.
func checkAsSaid(word uint64) int {
	switch {
	case isCodeWord(word):
		return 0
	case onesAsSaid(word)%2 == 1:
		return 1
	}
	return 2
}

// neighbours returns the code words that differ from a word in one position.
func neighbours(word uint64) []uint64 {
	var l []uint64
	for p := range 64 {
		if w := word ^ 1<<p; isCodeWord(w) {
			l = append(l, w)
		}
	}
	return l
}

// checkWord compares Check and Decode with what C2 says; it finds the bit to be inverted by trying all of them.
func checkWord(t *testing.T, word uint64) {
	t.Helper()
	if got, want := hamming.Check(word), checkAsSaid(word); got != want {
		t.Errorf("Check(%x): %d, want %d", word, got, want)
	}
	near := neighbours(word)
	switch {
	case isCodeWord(word):
		checkDecode(t, word, dataAsSaid(word), 0, api.OK)
	case len(near) == 1:
		checkDecode(t, word, dataAsSaid(near[0]), 1, api.OK)
	default:
		checkDecode(t, word, 0, 0, api.ErrNot)
	}
}

func TestP3_1Examples(t *testing.T) {
	for data, want := range []uint64{0, 15, 51, 60} {
		if got, e := hamming.Encode(uint64(data)); got != want || e != api.OK {
			t.Errorf("Encode(%d): %d, %d", data, got, e)
		}
	}
	if n := hamming.Check(14); n != 1 {
		t.Errorf("Check(14): %d", n)
	}
	if n := hamming.Check(12); n != 2 {
		t.Errorf("Check(12): %d", n)
	}
	checkDecode(t, 14, 1, 1, api.OK)
	checkDecode(t, 12, 0, 0, api.ErrNot)
}

// These code words were computed apart from this program.
func TestP3_1EncodeKnown(t *testing.T) {
	for _, c := range []struct{ data, word uint64 }{
		{4, 0x55},
		{8, 0x96},
		{1 << 10, 0x8117},
		{1 << 11, 0x30003},
		{1 << 25, 0x80010116},
		{1 << 26, 0x300000003},
		{1 << 55, 0x4000000100010114},
		{1 << 56, 0x8000000100010117},
		{allData, math.MaxUint64},
		{allData - 1, 0xfffffffffffffff0},
		{0x123456789abcde, 0x91a2b3d26af9be7},
		{0x155555555555555, 0xaaaaaaaa5555aa5a},
		{0xaaaaaaaaaaaaaa, 0x55555555aaaa55a5},
		{0x1fedcba98765432, 0xff6e5d4d1d948624},
	} {
		if got, e := hamming.Encode(c.data); got != c.word || e != api.OK {
			t.Errorf("Encode(%x): %x, %d, want %x", c.data, got, e, c.word)
		}
		checkDecode(t, c.word, c.data, 0, api.OK)
	}
}

func TestP3_1EncodeRefused(t *testing.T) {
	refused := func(data uint64) {
		if got, e := hamming.Encode(data); got != 0 || e != api.ErrArg {
			t.Errorf("Encode(%x): %x, %d", data, got, e)
		}
	}
	refused(1<<57 + 1)
	refused(math.MaxUint64)
	r := source()
	for k := 57; k < 64; k++ {
		refused(1 << k)
		refused(1<<k | allData)
		refused(1<<k | someData(r))
	}
}

// Each data bit is where the chapter says, and no other one is there.
func TestP3_1Positions(t *testing.T) {
	k := 0
	for p := range 64 {
		if holdsParity(p) {
			continue
		}
		word := encoded(t, 1<<k)
		for q := range 64 {
			if !holdsParity(q) && (bit(word, q) == 1) != (p == q) {
				t.Errorf("data bit %d, which belongs to the position %d: the position %d has %d", k, p, q, bit(word, q))
			}
		}
		k++
	}
	for _, c := range []struct{ k, p int }{{0, 3}, {1, 5}, {2, 6}, {56, 63}} {
		if word := encoded(t, 1<<c.k); bit(word, c.p) != 1 {
			t.Errorf("data bit %d is not at the position %d of %x", c.k, c.p, word)
		}
	}
}

// There is exactly one code word for each value of the data bits, and Encode returns it.
func TestP3_1EncodeAsSaid(t *testing.T) {
	eachData(func(data uint64) {
		words := codeWordsAsSaid(data)
		if word := encoded(t, data); len(words) != 1 || word != words[0] {
			t.Errorf("Encode(%x): %x, want one of %x", data, word, words)
		}
	})
}

func TestP3_1SmallWords(t *testing.T) {
	for word := range uint64(1 << 14) {
		checkWord(t, word)
	}
}

func TestP3_1SomeWords(t *testing.T) {
	counts := [3]int{}
	eachWord(func(word uint64) {
		checkWord(t, word)
		counts[checkAsSaid(word)]++
	})
	if counts[0] < 1000 || counts[1] < 1000 || counts[2] < 1000 {
		t.Errorf("words by what Check says: only %v", counts)
	}
}

// With an odd number of ones and the syndrome 0, the bit at the position 0 is the inverted one.
func TestP3_1OverallParity(t *testing.T) {
	for _, c := range []struct{ word, data uint64 }{{1, 0}, {14, 1}, {50, 2}, {61, 3}, {math.MaxUint64 - 1, allData}} {
		if n := hamming.Check(c.word); n != 1 {
			t.Errorf("Check(%x): %d", c.word, n)
		}
		checkDecode(t, c.word, c.data, 1, api.OK)
	}
	eachData(func(data uint64) {
		word := encoded(t, data) ^ 1
		if syndromeAsSaid(word) != 0 || hamming.Check(word) != 1 {
			t.Errorf("%x: syndrome %d, Check %d", word, syndromeAsSaid(word), hamming.Check(word))
		}
		checkDecode(t, word, data, 1, api.OK)
	})
}

// Words with two ones or two zeros: they are two positions away from a code word, at the ends of the word and within it.
func TestP3_1Refused(t *testing.T) {
	for _, word := range []uint64{3, 5, 6, 12, 1<<63 | 1, 1<<63 | 1<<62, math.MaxUint64 ^ 3, math.MaxUint64 ^ (1<<63 | 1)} {
		if n := hamming.Check(word); n != 2 {
			t.Errorf("Check(%x): %d", word, n)
		}
		checkDecode(t, word, 0, 0, api.ErrNot)
	}
}

func TestP3_1Flip(t *testing.T) {
	r := source()
	for _, word := range []uint64{0, math.MaxUint64, r.Uint64(), r.Uint64()} {
		for i := range 64 {
			got := hamming.Flip(word, i)
			for p := range 64 {
				if (bit(got, p) != bit(word, p)) != (p == i) {
					t.Errorf("Flip(%x, %d): %x", word, i, got)
				}
			}
			if again := hamming.Flip(got, i); again != word {
				t.Errorf("Flip(%x, %d) twice: %x", word, i, again)
			}
		}
	}
	if got := hamming.Flip(0, 0); got != 1 {
		t.Errorf("the position 0: %x", got)
	}
	if got := hamming.Flip(0, 63); got != 1<<63 {
		t.Errorf("the position 63: %x", got)
	}
}

func TestP3_1FlipNothing(t *testing.T) {
	for _, word := range []uint64{0, 1, 1 << 63, 0x0123456789abcdef, math.MaxUint64} {
		for _, i := range []int{-1, -2, -63, -64, -65, 64, 65, 127, 128, 1 << 32, -1 << 32, 1<<32 + 1, math.MaxInt, math.MinInt} {
			if got := hamming.Flip(word, i); got != word {
				t.Errorf("Flip(%x, %d): %x", word, i, got)
			}
		}
	}
}

func TestP3_1Distance(t *testing.T) {
	for _, c := range []struct {
		a, b uint64
		want int
	}{
		{0, 0, 0},
		{math.MaxUint64, math.MaxUint64, 0},
		{0, math.MaxUint64, 64},
		{0, 1, 1},
		{1 << 63, 0, 1},
		{1 << 63, 1, 2},
		{12, 10, 2},
		{15, 51, 4},
	} {
		if got := hamming.Distance(c.a, c.b); got != c.want {
			t.Errorf("Distance(%x, %x): %d, want %d", c.a, c.b, got, c.want)
		}
	}
	r := source()
	for range 2000 {
		a, b := r.Uint64(), r.Uint64()
		want := 0
		for p := range 64 {
			if bit(a, p) != bit(b, p) {
				want++
			}
		}
		if got := hamming.Distance(a, b); got != want {
			t.Errorf("Distance(%x, %x): %d, want %d", a, b, got, want)
		}
	}
}
