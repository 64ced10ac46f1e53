package journal_test

import (
	"bytes"
	"encoding/binary"
	"math"
	"math/rand/v2"
	"slices"
	"testing"

	"wireloom/api"
	"wireloom/digest"
	"wireloom/journal"
)

// The limits as the chapter gives them.
const (
	mostElements = 256
	mostBytes    = 65536
)

func source() *rand.Rand { return rand.New(rand.NewPCG(6, 54)) }

// bytesOf is the bytes of words.
func bytesOf(words ...uint64) []byte {
	var b []byte
	for _, w := range words {
		b = binary.LittleEndian.AppendUint64(b, w)
	}
	return b
}

// encodeAsSaid is the encoding of a record with a key, of any length, and the seal.
func encodeAsSaid(key uint64, r []int) ([]byte, uint64) {
	words := []uint64{uint64(len(r)), digest.Tag(key, []int{len(r)})}
	for _, n := range r {
		words = append(words, uint64(n))
	}
	seal := digest.Tag(key, r)
	return bytesOf(append(words, seal)...), seal
}

// sealAsSaid is the key of a record that follows a list of records.
func sealAsSaid(l [][]int) uint64 {
	var key uint64
	for _, r := range l {
		key = digest.Tag(key, r)
	}
	return key
}

// journalAsSaid is the journal of a list of records, of any length.
func journalAsSaid(l [][]int) []byte {
	var j []byte
	var key uint64
	for _, r := range l {
		var b []byte
		b, key = encodeAsSaid(key, r)
		j = append(j, b...)
	}
	return j
}

// ends is where the journal of each beginning of a list of records ends.
func ends(l [][]int) []int {
	at := []int{0}
	for _, r := range l {
		at = append(at, at[len(at)-1]+8*len(r)+24)
	}
	return at
}

// wholeAsSaid is the records of the longest prefix of b that is a journal; it tries records of each length.
func wholeAsSaid(b []byte) [][]int {
	var l [][]int
	var key uint64
	for {
		r, encoded, ok := beginning(key, b)
		if !ok {
			return l
		}
		l = append(l, r)
		b, key = b[len(encoded):], digest.Tag(key, r)
	}
}

// beginning is a record whose encoding b begins with.
func beginning(key uint64, b []byte) ([]int, []byte, bool) {
	for n := range mostElements + 1 {
		if 8*n+24 > len(b) {
			break
		}
		r := make([]int, n)
		for i := range r {
			r[i] = int(binary.LittleEndian.Uint64(b[16+8*i:]))
		}
		if encoded, _ := encodeAsSaid(key, r); bytes.HasPrefix(b, encoded) {
			return r, encoded, true
		}
	}
	return nil, nil, false
}

func equal(a, b [][]int) bool { return slices.EqualFunc(a, b, slices.Equal[[]int]) }

// checkRead says what is read from b: the records l, and that everything behind their journal is the rest.
func checkRead(t *testing.T, b []byte, l [][]int) {
	t.Helper()
	whole := journalAsSaid(l)
	want := api.OK
	if len(b) > len(whole) {
		want = api.ErrTorn
	}
	got, rest, e := journal.Read(b)
	if !equal(got, l) || !bytes.Equal(rest, b[len(whole):]) || e != want {
		t.Errorf("Read of %d bytes: %d records, %d bytes, %d, want %d records, %d bytes, %d", len(b), len(got), len(rest), e, len(l), len(b)-len(whole), want)
	}
	if got := journal.Whole(b); !bytes.Equal(got, whole) {
		t.Errorf("Whole of %d bytes: %d bytes, want %d", len(b), len(got), len(whole))
	}
}

// checkPut says what Put answers for b and r, if the records of the complete part of b are l.
func checkPut(t *testing.T, b []byte, l [][]int, r []int) {
	t.Helper()
	want := append(slices.Clip(l), r)
	got, e := journal.Put(b, r)
	switch {
	case len(r) > mostElements:
		if e != api.ErrArg || len(got) != 0 {
			t.Errorf("Put of %d elements to %d bytes: %d bytes, %d", len(r), len(b), len(got), e)
		}
	case len(b) > len(journalAsSaid(l)):
		if e != api.ErrTorn || len(got) != 0 {
			t.Errorf("Put of %d elements to %d bytes with a rest: %d bytes, %d", len(r), len(b), len(got), e)
		}
	case len(journalAsSaid(want)) > mostBytes:
		if e != api.ErrBig || len(got) != 0 {
			t.Errorf("Put of %d elements to the many %d bytes: %d bytes, %d", len(r), len(b), len(got), e)
		}
	default:
		if e != api.OK || !bytes.Equal(got, journalAsSaid(want)) {
			t.Errorf("Put of %d elements to %d bytes: %x, %d", len(r), len(b), got, e)
		}
	}
}

// put puts records that are not refused.
func put(t *testing.T, j []byte, l ...[]int) []byte {
	t.Helper()
	for _, r := range l {
		var e api.Errno
		if j, e = journal.Put(j, r); e != api.OK {
			t.Fatalf("Put of %d elements: error %d", len(r), e)
		}
	}
	return j
}

// someRecord is a record of n numbers, many of which are small.
func someRecord(r *rand.Rand, n int) []int {
	l := make([]int, n)
	for i := range l {
		l[i] = int(r.Uint64()) >> r.IntN(64)
	}
	return l
}

// someRecords is a list of at most most records, which are short, most of them.
func someRecords(r *rand.Rand, most int) [][]int {
	l := make([][]int, r.IntN(most+1))
	for i := range l {
		l[i] = someRecord(r, r.IntN(1+r.IntN(10)))
		if r.IntN(30) == 0 {
			l[i] = someRecord(r, r.IntN(mostElements+1))
		}
	}
	return l
}

// countUp is the record with the numbers from 0 to n - 1.
func countUp(n int) []int {
	l := make([]int, n)
	for i := range l {
		l[i] = i
	}
	return l
}

// shortLists is lists of records whose journals are short enough to be damaged everywhere.
func shortLists() [][][]int {
	l := [][][]int{
		nil,
		{{}},
		{{5}},
		{{0}, {0}},
		{{}, {}, {}},
		{{-1, -2}, {}, {math.MaxInt, math.MinInt, 0}},
		{{1, 2, 3, 4, 5, 6, 7}, {8}},
		{{3, 24, 1}, {1, 1, 1}, {}, {2}},
	}
	r := source()
	for range 6 {
		l = append(l, someRecords(r, 4))
	}
	return slices.DeleteFunc(l, func(l [][]int) bool { return len(journalAsSaid(l)) > 400 })
}

// full is a list of records whose journal has as many bytes as it may.
func full() [][]int {
	r := source()
	var l [][]int
	for range 31 { // 2072 bytes each
		l = append(l, someRecord(r, mostElements))
	}
	return append(l, someRecord(r, 157), nil) // 1280 and 24 bytes
}
