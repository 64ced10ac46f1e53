package hamming_test

import (
	"testing"

	"wireloom/api"
	"wireloom/hamming"
)

func TestP3_2RoundTrip(t *testing.T) {
	eachData(func(data uint64) {
		checkDecode(t, encoded(t, data), data, 0, api.OK)
	})
	for data := range uint64(5000) {
		checkDecode(t, encoded(t, data), data, 0, api.OK)
		checkDecode(t, encoded(t, allData-data), allData-data, 0, api.OK)
	}
}

func TestP3_3OneFlip(t *testing.T) {
	eachData(func(data uint64) {
		word := encoded(t, data)
		for i := range 64 {
			w := hamming.Flip(word, i)
			if n := hamming.Check(w); w == word || n != 1 {
				t.Errorf("Check(%x), which is %x with the bit %d inverted: %d", w, word, i, n)
			}
			checkDecode(t, w, data, 1, api.OK)
		}
	})
}

func TestP3_4TwoFlips(t *testing.T) {
	eachData(func(data uint64) {
		word := encoded(t, data)
		for i := range 64 {
			for j := range i {
				w := hamming.Flip(hamming.Flip(word, i), j)
				if n := hamming.Check(w); w == word || n != 2 {
					t.Errorf("Check(%x), which is %x with the bits %d and %d inverted: %d", w, word, i, j, n)
				}
				checkDecode(t, w, 0, 0, api.ErrNot)
			}
		}
	})
}

// Data that differ in four bits or more have code words that do, too; so these are all cases for each of the data.
func TestP3_5Distance(t *testing.T) {
	for _, data := range []uint64{0, allData, someData(source())} {
		word, near := encoded(t, data), 0
		for i := range 57 {
			for j := range i + 1 {
				for k := range j + 1 {
					other := data ^ (uint64(1)<<i | 1<<j | 1<<k)
					n := hamming.Distance(word, encoded(t, other))
					if n < 4 {
						t.Errorf("the code words of %x and %x: distance %d", data, other, n)
					}
					if n == 4 {
						near++
					}
				}
			}
		}
		if near == 0 {
			t.Errorf("no code word is at a distance of 4 from that of %x", data)
		}
	}
}

func TestP3_5SomeDistances(t *testing.T) {
	r := source()
	for range 20000 {
		a, b := someData(r), someData(r)
		if n := hamming.Distance(encoded(t, a), encoded(t, b)); a != b && n < 4 || a == b && n != 0 {
			t.Errorf("the code words of %x and %x: distance %d", a, b, n)
		}
	}
}

func TestP3_5ExclusiveOr(t *testing.T) {
	eachData(func(a uint64) {
		eachData(func(b uint64) {
			sum := encoded(t, a) ^ encoded(t, b)
			if want := encoded(t, a^b); sum != want {
				t.Errorf("%x and %x: the exclusive or of their code words is %x, not %x", a, b, sum, want)
			}
			if n := hamming.Check(sum); n != 0 {
				t.Errorf("%x and %x: Check of the exclusive or of their code words is %d", a, b, n)
			}
		})
	})
}

// flipped counts the positions whose bit leads to a code word if it is inverted, according to Check.
func flipped(word uint64) int {
	n := 0
	for p := range 64 {
		if hamming.Check(hamming.Flip(word, p)) == 0 {
			n++
		}
	}
	return n
}

func TestP3_6WholeWords(t *testing.T) {
	whole := 0
	test := func(word uint64) {
		if hamming.Check(word) != 0 {
			return
		}
		whole++
		data, n, e := hamming.Decode(word)
		if back := encoded(t, data); back != word || n != 0 || e != api.OK {
			t.Errorf("%x: Decode %x, %d, %d, whose code word is %x", word, data, n, e, back)
		}
	}
	for word := range uint64(1 << 16) {
		test(word)
	}
	if whole != 1<<11 {
		t.Errorf("%d code words of 16 bits", whole)
	}
	eachWord(test)
}

func TestP3_6Positions(t *testing.T) {
	test := func(word uint64) {
		want := 0
		if hamming.Check(word) == 1 {
			want = 1
		}
		if got := flipped(word); got != want || len(neighbours(word)) != want {
			t.Errorf("%x, Check %d: %d positions lead to a code word", word, hamming.Check(word), got)
		}
	}
	for word := range uint64(1 << 12) {
		test(word)
	}
	eachWord(test)
	eachData(func(data uint64) { test(encoded(t, data)) })
}

// What is corrected is the code word of the data that Decode returns, one position away.
func TestP3_6Corrected(t *testing.T) {
	eachWord(func(word uint64) {
		if hamming.Check(word) != 1 {
			return
		}
		data, n, e := hamming.Decode(word)
		if d := hamming.Distance(word, encoded(t, data)); d != 1 || n != 1 || e != api.OK {
			t.Errorf("%x: Decode %x, %d, %d, whose code word is at a distance of %d", word, data, n, e, d)
		}
	})
}
