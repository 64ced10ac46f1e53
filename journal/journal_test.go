package journal_test

import (
	"bytes"
	"encoding/hex"
	"math"
	"math/rand/v2"
	"slices"
	"testing"

	"wireloom/api"
	"wireloom/digest"
	"wireloom/journal"
)

// The bytes in the next tests were computed apart from this program.

func TestP6_1Known(t *testing.T) {
	for _, c := range []struct {
		l    [][]int
		want string
	}{
		{nil, ""},
		{[][]int{{}}, "00000000000000004b829cb4516502d54da8a13fc814c46c"},
		{[][]int{{5}}, "01000000000000009cb3e8602dc907a805000000000000000030f76da26af66a"},
		{[][]int{{0}}, "01000000000000009cb3e8602dc907a800000000000000004b829cb4516502d5"},
		{[][]int{{-1}}, "01000000000000009cb3e8602dc907a8ffffffffffffffffd99d457b3d19c6b1"},
		{[][]int{{}, {}}, "00000000000000004b829cb4516502d54da8a13fc814c46c0000000000000000fd58f37a796d4901653dcd70b11caca0"},
		{[][]int{{5}, {}}, "01000000000000009cb3e8602dc907a805000000000000000030f76da26af66a000000000000000032c776a975bbfb136a03fac0a99c5c0a"},
		{[][]int{{}, {5}}, "00000000000000004b829cb4516502d54da8a13fc814c46c01000000000000007357755371cebac10500000000000000e12dc8a06509d333"},
		{[][]int{{1, 2}, {3}}, "02000000000000003e8748649e1a564c01000000000000000200000000000000b50675bbc8019de80100000000000000e39c84e4a87bc6ac03000000000000009e0e464bf8829107"},
		{[][]int{{1}, {2, 3}}, "01000000000000009cb3e8602dc907a801000000000000009cb3e8602dc907a80200000000000000f1dee7b717997cd302000000000000000300000000000000f82fe6cd3ccf3466"},
		{[][]int{{math.MaxInt, math.MinInt}}, "02000000000000003e8748649e1a564cffffffffffffff7f0000000000000080aefb6606538241ad"},
		{[][]int{{5, -1}, {}, {1 << 62}}, "02000000000000003e8748649e1a564c0500000000000000ffffffffffffffff22eecc02a50837850000000000000000c11b4db178994a9cf98753b00c553fd30100000000000000a7b2162189e65079000000000000004095723c1035fd2f43"},
	} {
		j := put(t, nil, c.l...)
		if got := hex.EncodeToString(j); got != c.want {
			t.Errorf("the journal of %v is %s, want %s", c.l, got, c.want)
		}
		checkRead(t, j, c.l)
	}
}

func TestP6_1KnownLong(t *testing.T) {
	j := put(t, nil, countUp(256))
	if d := digest.Bytes(j); len(j) != 2072 || d != 0x2f3acd9d822d2ced {
		t.Errorf("a record of 256 elements: %d bytes with the digest %x", len(j), d)
	}
	j = nil
	for n := range 30 {
		r := countUp(n)
		for i := range r {
			r[i] *= -n
		}
		j = put(t, j, r)
	}
	if d := digest.Bytes(j); len(j) != 4200 || d != 0x61b1be3689e9e2be {
		t.Errorf("30 records: %d bytes with the digest %x", len(j), d)
	}
}

func TestP6_1Examples(t *testing.T) {
	j := put(t, nil, []int{5})
	want := bytesOf(1, digest.Tag(0, []int{1}), 5, digest.Tag(0, []int{5}))
	if len(j) != 32 || !bytes.Equal(j, want) {
		t.Errorf("the journal of 5 is %x", j)
	}
	if l, rest, e := journal.Read(j[:31]); len(l) != 0 || !bytes.Equal(rest, want[:31]) || e != api.ErrTorn {
		t.Errorf("of its first 31 bytes: %v, %x, %d", l, rest, e)
	}
	if j := put(t, nil, nil); len(j) != 24 {
		t.Errorf("the journal of a record without elements is %x", j)
	}
}

func TestP6_1NoRecord(t *testing.T) {
	for _, j := range [][]byte{nil, {}, make([]byte, 0, 50)} {
		checkRead(t, j, nil)
		checkPut(t, j, nil, nil)
		checkPut(t, j, nil, []int{-7, 7})
	}
}

func TestP6_1Elements(t *testing.T) {
	before := [][]int{{4, -4}}
	j := put(t, nil, before...)
	for n := range mostElements + 1 {
		checkPut(t, nil, nil, countUp(n))
		checkPut(t, j, before, countUp(n))
	}
	for _, n := range []int{257, 258, 300, 512, 1000, 8189, 8190, 70000} {
		for _, b := range [][]byte{nil, j, j[:5], j[:39], bytesOf(0, 0, 0)} {
			if got, e := journal.Put(b, countUp(n)); e != api.ErrArg || len(got) != 0 {
				t.Errorf("Put of %d elements to %d bytes: %d bytes, %d", n, len(b), len(got), e)
			}
		}
	}
}

// The first of the errors that apply is returned.
func TestP6_1PutErrors(t *testing.T) {
	whole := journalAsSaid(full())
	above := journalAsSaid(append(full(), []int{1}))
	torn := slices.Concat(whole, []byte{0})
	for i, c := range []struct {
		j []byte
		n int
		e api.Errno
	}{
		{whole, 256, api.ErrBig},
		{whole, 1, api.ErrBig},
		{whole, 0, api.ErrBig},
		{whole, 257, api.ErrArg},
		{above, 0, api.ErrBig},
		{above, 256, api.ErrBig},
		{above, 257, api.ErrArg},
		{torn, 0, api.ErrTorn},
		{torn, 256, api.ErrTorn},
		{torn, 257, api.ErrArg},
		{whole[:mostBytes-1], 0, api.ErrTorn},
		{whole[:mostBytes-1], 257, api.ErrArg},
		{whole[:mostBytes-24], 0, api.OK},
		{whole[:mostBytes-24], 1, api.ErrBig},
		{whole[:mostBytes-24], 257, api.ErrArg},
		{above[:len(above)-1], 0, api.ErrTorn},
		{above[8:], 0, api.ErrTorn},
		{[]byte{0}, 0, api.ErrTorn},
		{[]byte{0}, 257, api.ErrArg},
		{make([]byte, 24), 0, api.ErrTorn},
		{make([]byte, 100000), 0, api.ErrTorn},
		{make([]byte, 100000), 257, api.ErrArg},
	} {
		if got, e := journal.Put(c.j, countUp(c.n)); e != c.e || e != api.OK && len(got) != 0 {
			t.Errorf("case %d: %d bytes, %d, want %d", i, len(got), e, c.e)
		}
	}
}

// A journal is put to until it has 65536 bytes, whatever the last record is; above this it is only read.
func TestP6_1Limit(t *testing.T) {
	l := full()[:31]
	j := put(t, nil, l...)
	left := mostBytes - len(j) // 1304
	for n := range mostElements + 2 {
		checkPut(t, j, l, countUp(n))
		if got, e := journal.Put(j, countUp(n)); (e == api.OK) != (8*n+24 <= left) || e == api.OK && len(got) > mostBytes {
			t.Errorf("Put of %d elements where %d bytes are left: %d", n, left, e)
		}
	}
	for _, last := range [][]int{nil, {1}, countUp(mostElements)} {
		l := append(full(), last)
		checkRead(t, journalAsSaid(l), l)
		checkRead(t, slices.Concat(journalAsSaid(l), []byte{9}), l)
	}
	checkRead(t, put(t, nil, full()...), full())
	many := slices.Repeat([][]int{{}}, 2730) // 65520 bytes
	checkRead(t, put(t, nil, many...), many)
	checkPut(t, journalAsSaid(many), many, nil)
	checkPut(t, journalAsSaid(many[1:]), many[1:], nil)
}

// Numbers of elements that no record has are refused, also if their tags and seals are right.
func TestP6_1NoSuchNumber(t *testing.T) {
	numbers := []int{-1, -2, -3, -4, -5, -24, -256, -257, math.MinInt, math.MinInt + 1, 257, 258, 300, 512, 1 << 16, 1 << 32, 1<<32 + 1, 1<<60 - 3, 1 << 61, 1<<61 - 3, 1<<61 + 1, 1 << 62, 3 << 61, math.MaxInt, math.MaxInt - 2}
	for _, before := range [][][]int{nil, {{}}, {{6, -6}, {}}} {
		j, key := journalAsSaid(before), sealAsSaid(before)
		for _, n := range numbers {
			head := bytesOf(uint64(n), digest.Tag(key, []int{n}))
			seal := bytesOf(digest.Tag(key, nil))
			next, _ := encodeAsSaid(digest.Tag(key, nil), nil)
			checkRead(t, slices.Concat(j, head), before)
			checkRead(t, slices.Concat(j, head, seal), before)
			checkRead(t, slices.Concat(j, head, seal, next), before)
			checkRead(t, slices.Concat(j, head, make([]byte, 4000)), before)
			checkPut(t, slices.Concat(j, head, seal), before, nil)
		}
		for _, n := range []int{257, 258, 300, 9000} {
			checkRead(t, journalAsSaid(append(slices.Clip(before), countUp(n))), before)
			checkRead(t, journalAsSaid(append(slices.Clip(before), countUp(n), nil)), before)
		}
	}
}

// A number of elements is only taken with its own tag, though the seal may be right.
func TestP6_1OtherNumber(t *testing.T) {
	for _, before := range [][][]int{nil, {{2}}} {
		j, key := journalAsSaid(before), sealAsSaid(before)
		for n := range 5 {
			r := countUp(n)
			good, seal := encodeAsSaid(key, r)
			for m := -3; m < 8; m++ {
				number := bytesOf(uint64(m), digest.Tag(key, []int{m}))
				tag := bytesOf(uint64(n), digest.Tag(key, []int{m}))
				head := bytesOf(uint64(m), digest.Tag(key, []int{n}))
				for _, b := range [][]byte{number, tag, head} {
					odd := slices.Concat(j, b, good[16:])
					if m == n {
						checkRead(t, odd, append(slices.Clip(before), r))
						continue
					}
					checkRead(t, odd, before)
					next, _ := encodeAsSaid(seal, nil)
					checkRead(t, slices.Concat(odd, next), before)
				}
			}
		}
	}
}

func TestP6_1OtherKey(t *testing.T) {
	before := [][]int{{1, 2}, {3}, {}}
	j, key := journalAsSaid(before), sealAsSaid(before)
	r := []int{7, 8, 9}
	good, _ := encodeAsSaid(key, r)
	checkRead(t, slices.Concat(j, good), append(slices.Clip(before), r))
	keys := []uint64{0, 1, key + 1, key - 1, ^key, sealAsSaid(before[:1]), sealAsSaid(before[:2]), digest.Tag(key, r), digest.Tag(sealAsSaid(before[:2]), []int{0}), digest.Tag(key, []int{3})}
	for k := range 64 {
		keys = append(keys, key^1<<k)
	}
	for _, other := range keys {
		bad, _ := encodeAsSaid(other, r)
		checkRead(t, slices.Concat(j, bad), before)
		checkRead(t, slices.Concat(j, good[:16], bad[16:]), before)
		checkRead(t, slices.Concat(j, bad[:16], good[16:]), before)
		checkRead(t, slices.Concat(j, good[:8], bad[8:16], good[16:]), before)
		if other != 0 {
			checkRead(t, bad, nil)
		}
	}
	checkRead(t, good, nil)
	checkRead(t, j[40:], nil)
}

// Whatever was done to a journal, and whatever bytes there are.
func TestP6_1AsSaid(t *testing.T) {
	r := source()
	some := map[bool]int{}
	for range 4000 {
		b := journalAsSaid(someRecords(r, 6))
		for range r.IntN(4) {
			b = spoilt(r, b)
		}
		l := wholeAsSaid(b)
		some[len(journalAsSaid(l)) == len(b)]++
		checkRead(t, b, l)
		checkPut(t, b, l, someRecord(r, r.IntN(4)))
	}
	if some[true] < 500 || some[false] < 500 {
		t.Errorf("only %d whole journals, and %d others", some[true], some[false])
	}
}

// spoilt is b with something done to it.
func spoilt(r *rand.Rand, b []byte) []byte {
	b = slices.Clone(b)
	at := r.IntN(len(b) + 1)
	switch r.IntN(8) {
	case 0:
		return b[:at]
	case 1:
		return b[at:]
	case 2:
		return slices.Insert(b, at, byte(r.Uint32()))
	case 3:
		return slices.Concat(b, journalAsSaid(someRecords(r, 3)))
	case 4:
		return slices.Concat(b, make([]byte, r.IntN(60)))
	case 5:
		return slices.Concat(b[at&^7:], b[:at&^7])
	case 6:
		encoded, _ := encodeAsSaid(sealAsSaid(wholeAsSaid(b)), someRecord(r, 3))
		return slices.Concat(b, encoded)
	}
	if at < len(b) {
		b[at] ^= 1 << r.IntN(8)
	}
	return b
}

func TestP6_1Cut(t *testing.T) {
	r := source()
	b := make([]byte, 50)
	for i := range b {
		b[i] = byte(r.Uint32())
	}
	for n := range len(b) + 1 {
		if got := journal.Cut(b, n); !bytes.Equal(got, b[:n]) {
			t.Errorf("Cut at %d: %x", n, got)
		}
		for _, m := range []int{n, n + 1, n + 2, 2*n + 1, math.MaxInt} {
			if got := journal.Cut(b[:n], m); !bytes.Equal(got, b[:n]) {
				t.Errorf("Cut of %d bytes at %d: %x", n, m, got)
			}
		}
		for _, m := range []int{0, -1, -2, -n, math.MinInt} {
			if got := journal.Cut(b[:n], m); len(got) != 0 {
				t.Errorf("Cut of %d bytes at %d: %x", n, m, got)
			}
		}
	}
	for _, m := range []int{math.MinInt, -1, 0, 1, math.MaxInt} {
		if got := journal.Cut(nil, m); len(got) != 0 {
			t.Errorf("Cut of nothing at %d: %x", m, got)
		}
	}
}
