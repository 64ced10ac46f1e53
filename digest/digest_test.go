package digest_test

import (
	"math"
	"math/rand/v2"
	"slices"
	"testing"

	"wireloom/digest"
)

// step is a step as the chapter says it.
func step(h, w uint64) uint64 {
	a := (h ^ w) * 0xd6e8feb86659fd93
	b := a ^ (a >> 32)
	return b * 0xa0761d6478bd642f
}

// wordsAsSaid is A1 for numbers, word by word.
func wordsAsSaid(l []int) uint64 {
	h := uint64(0x776f726473)
	for _, n := range l {
		h = step(h, uint64(n))
	}
	return step(h, uint64(len(l)))
}

// bytesAsSaid is A1 for bytes, over a copy that is filled with zero bytes.
func bytesAsSaid(b []byte) uint64 {
	filled := slices.Clone(b)
	for len(filled)%8 != 0 {
		filled = append(filled, 0)
	}
	h := uint64(0x6279746573)
	for ; len(filled) > 0; filled = filled[8:] {
		var w uint64
		for k := 7; k >= 0; k-- {
			w = w*256 + uint64(filled[k])
		}
		h = step(h, w)
	}
	return step(h, uint64(len(b)))
}

func source() *rand.Rand { return rand.New(rand.NewPCG(1, 54)) }

func someNumbers(r *rand.Rand, n int) []int {
	l := make([]int, n)
	for i := range l {
		l[i] = int(r.Uint64())
	}
	return l
}

func someBytes(r *rand.Rand, n int) []byte {
	b := make([]byte, n)
	for i := range b {
		b[i] = byte(r.Uint32())
	}
	return b
}

// The digests in the next tests were computed apart from this program.

func TestP1_1WordsKnown(t *testing.T) {
	for _, c := range []struct {
		l    []int
		want uint64
	}{
		{nil, 0x61f9ec777a0c163e},
		{[]int{}, 0x61f9ec777a0c163e},
		{[]int{0}, 0xd21f99db341f8f84},
		{[]int{0, 0}, 0x5a2825e087519d99},
		{[]int{1, 2, 3}, 0x4248e16ebf896fe5},
		{[]int{-1}, 0x7b07eb32320e3004},
		{[]int{1 << 62, -1 << 62}, 0x13434baa9f7f7d82},
		{[]int{math.MaxInt, math.MinInt}, 0xb32144009422c23},
	} {
		if got := digest.Words(c.l); got != c.want {
			t.Errorf("Words(%v) = %x, want %x", c.l, got, c.want)
		}
	}
}

func TestP1_1BytesKnown(t *testing.T) {
	for _, c := range []struct {
		b    string
		want uint64
	}{
		{"", 0xbdb8053cf9736f39},
		{"\x00", 0xdcce02531f423aac},
		{"a", 0xf622ec4c88e22bb7},
		{"abcdefg", 0x3b97cbb71285cc1e},
		{"abcdefgh", 0xa6cb9d4a6b880caa},
		{"abcdefghi", 0x60f46406e709033e},
		{"abcdefgh\x00", 0x4da70bfbe486cf73},
		{"\x00\x00\x00\x00\x00\x00\x00\x00", 0xe856d6454b4cd84e},
		{"\xf0\xf1\xf2\xf3\xf4\xf5\xf6\xf7\xf8\xf9\xfa\xfb\xfc\xfd\xfe\xff", 0x24806b622dd79ac},
		{"\xff\xff\xff\xff\xff\xff\xff\xff\xff\xff\xff\xff\xff\xff\xff\xff\xff", 0x16367e538b035294},
	} {
		if got := digest.Bytes([]byte(c.b)); got != c.want {
			t.Errorf("Bytes(%q) = %x, want %x", c.b, got, c.want)
		}
	}
}

func TestP1_1JoinKnown(t *testing.T) {
	for _, c := range []struct{ a, b, want uint64 }{
		{0, 0, 0xd555991351f321bb},
		{5, 6, 0xe5badf5e9521bec5},
		{6, 5, 0x99fefefd2ed92c0e},
		{math.MaxUint64, 0, 0xf8147536b9662ec1},
		{0, math.MaxUint64, 0x1e8231994c67b595},
	} {
		if got := digest.Join(c.a, c.b); got != c.want {
			t.Errorf("Join(%x, %x) = %x, want %x", c.a, c.b, got, c.want)
		}
	}
}

func TestP1_1TagKnown(t *testing.T) {
	for _, c := range []struct {
		key  uint64
		l    []int
		want uint64
	}{
		{0, nil, 0x6cc414c83fa1a84d},
		{1, nil, 0xd21f99db341f8f84},
		{math.MaxUint64, []int{7}, 0xcd3a817f6067cbe7},
		{0x1234, []int{1, 2, 3}, 0xb36bc725a649e105},
	} {
		if got := digest.Tag(c.key, c.l); got != c.want {
			t.Errorf("Tag(%x, %v) = %x, want %x", c.key, c.l, got, c.want)
		}
	}
}

// Every length up to 40 has groups of 8 bytes, and last groups of each lesser size.
func TestP1_1AsSaid(t *testing.T) {
	r := source()
	for n := range 41 {
		l, b, key := someNumbers(r, n), someBytes(r, n), r.Uint64()
		if digest.Words(l) != wordsAsSaid(l) {
			t.Errorf("Words of %d numbers", n)
		}
		if digest.Tag(key, l) != step(key, wordsAsSaid(l)) {
			t.Errorf("Tag of %d numbers", n)
		}
		if digest.Bytes(b) != bytesAsSaid(b) {
			t.Errorf("Bytes of %d bytes", n)
		}
		if a, b := r.Uint64(), r.Uint64(); digest.Join(a, b) != step(step(0x6e6f6465, a), b) {
			t.Errorf("Join(%x, %x)", a, b)
		}
	}
}

func TestP1_2OneNumber(t *testing.T) {
	r := source()
	for n := 1; n <= 12; n++ {
		l := someNumbers(r, n)
		key := r.Uint64()
		words, tag := digest.Words(l), digest.Tag(key, l)
		for i := range l {
			for bit := range 64 {
				other := slices.Clone(l)
				other[i] ^= 1 << bit
				if digest.Words(other) == words {
					t.Errorf("%d numbers: the digest does not depend on bit %d of the number %d", n, bit, i)
				}
				if digest.Tag(key, other) == tag {
					t.Errorf("%d numbers: the tag does not depend on bit %d of the number %d", n, bit, i)
				}
			}
		}
	}
}

func TestP1_2SmallNumbers(t *testing.T) {
	words, tags := map[uint64]int{}, map[uint64]int{}
	for n := -2000; n <= 2000; n++ {
		l := []int{4, n, -4}
		if m, ok := words[digest.Words(l)]; ok {
			t.Errorf("%d and %d have the same digest", m, n)
		}
		if m, ok := tags[digest.Tag(9, l)]; ok {
			t.Errorf("%d and %d have the same tag", m, n)
		}
		words[digest.Words(l)], tags[digest.Tag(9, l)] = n, n
	}
}

func TestP1_2OneByte(t *testing.T) {
	r := source()
	for n := 1; n <= 20; n++ {
		b := someBytes(r, n)
		for i := range b {
			seen := map[uint64]bool{}
			other := slices.Clone(b)
			for v := range 256 {
				other[i] = byte(v)
				seen[digest.Bytes(other)] = true
			}
			if len(seen) != 256 {
				t.Errorf("%d bytes: the values of the byte %d have %d digests", n, i, len(seen))
			}
		}
	}
}

func TestP1_2Keys(t *testing.T) {
	r := source()
	for n := range 6 {
		l := someNumbers(r, n)
		key := r.Uint64()
		tag := digest.Tag(key, l)
		for bit := range 64 {
			if digest.Tag(key^1<<bit, l) == tag {
				t.Errorf("%d numbers: the tag does not depend on bit %d of the key", n, bit)
			}
		}
		seen := map[uint64]bool{}
		for k := range uint64(2000) {
			seen[digest.Tag(k, l)] = true
		}
		if len(seen) != 2000 {
			t.Errorf("%d numbers: 2000 keys have %d tags", n, len(seen))
		}
	}
}

func TestA4ListsStay(t *testing.T) {
	r := source()
	for n := range 20 {
		l, b := someNumbers(r, n), someBytes(r, n)
		l0, b0 := slices.Clone(l), slices.Clone(b)
		digest.Words(l)
		digest.Tag(1, l)
		digest.Bytes(b)
		if !slices.Equal(l, l0) || !slices.Equal(b, b0) {
			t.Errorf("a list of length %d was changed", n)
		}
	}
}

// A list that has room behind its end is read up to its end only, and that room stays.
func TestA4RoomStays(t *testing.T) {
	b := []byte("abcdefghijklmnop")
	if digest.Bytes(b[:11]) != bytesAsSaid([]byte("abcdefghijk")) {
		t.Error("Bytes depends on what is behind the end")
	}
	if string(b) != "abcdefghijklmnop" {
		t.Errorf("Bytes changed what is behind the end: %q", b)
	}
}
