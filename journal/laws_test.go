package journal_test

import (
	"bytes"
	"slices"
	"testing"

	"wireloom/api"
	"wireloom/journal"
)

func TestP6_2Records(t *testing.T) {
	r := source()
	for range 500 {
		l := someRecords(r, 8)
		var j []byte
		for i := range l {
			next := put(t, j, l[i])
			if len(next) != len(j)+8*len(l[i])+24 || !bytes.HasPrefix(next, j) {
				t.Errorf("a record of %d elements behind %d bytes: %d bytes", len(l[i]), len(j), len(next))
			}
			j = next
			checkRead(t, j, l[:i+1])
		}
	}
}

func TestP6_2EachLength(t *testing.T) {
	r := source()
	for n := range mostElements + 1 {
		l := [][]int{someRecord(r, n), someRecord(r, r.IntN(3))}
		j := put(t, nil, l...)
		if want := 8*(n+len(l[1])) + 48; len(j) != want {
			t.Errorf("records of %d and %d elements: %d bytes", n, len(l[1]), len(j))
		}
		checkRead(t, j, l)
	}
}

// within is how many of the encodings of records lie within the first n bytes.
func within(l [][]int, n int) int {
	count := 0
	for _, end := range ends(l)[1:] {
		if end <= n {
			count++
		}
	}
	return count
}

func TestP6_3Truncation(t *testing.T) {
	r := source()
	lists := append(shortLists(), [][]int{{1}, countUp(mostElements), {-2, 2}})
	for range 40 {
		lists = append(lists, someRecords(r, 5))
	}
	for _, l := range lists {
		j := put(t, nil, l...)
		for n := range len(j) + 1 {
			checkRead(t, journal.Cut(j, n), l[:within(l, n)])
			checkRead(t, j[:n], l[:within(l, n)])
		}
	}
}

// A journal of 65536 bytes, near the end of each record.
func TestP6_3TruncationOfFull(t *testing.T) {
	l := full()
	j := put(t, nil, l...)
	if len(j) != mostBytes {
		t.Fatalf("%d bytes", len(j))
	}
	for _, end := range ends(l) {
		for _, n := range []int{end - 9, end - 8, end - 1, end, end + 1, end + 8, end + 24, end + 1000} {
			checkRead(t, journal.Cut(j, n), l[:within(l, n)])
		}
	}
}

func TestP6_4Continuation(t *testing.T) {
	r := source()
	for _, l := range shortLists() {
		j := put(t, nil, l...)
		for n := range len(j) + 1 {
			whole := journal.Whole(journal.Cut(j, n))
			more := append([][]int{{n}}, someRecords(r, 3)...)
			all := slices.Concat(l[:within(l, n)], more)
			got := put(t, whole, more...)
			if !bytes.Equal(got, journalAsSaid(all)) || !bytes.Equal(got, put(t, nil, all...)) {
				t.Errorf("%v, cut off at %d, and then %v: %x", l, n, more, got)
			}
			checkRead(t, got, all)
		}
	}
}

// A truncated journal is filled up with new records as far as there is room.
func TestP6_4UpToLimit(t *testing.T) {
	l := full()
	j := put(t, nil, l...)
	for _, n := range []int{0, 3000, mostBytes - 1305, mostBytes - 1304, mostBytes - 25, mostBytes - 24, mostBytes - 1, mostBytes} {
		got, all := journal.Whole(journal.Cut(j, n)), slices.Clone(l[:within(l, n)])
		size, e := 50, api.OK
		for e == api.OK {
			r := countUp(size)
			var next []byte
			next, e = journal.Put(got, r)
			if want := len(got)+8*size+24 <= mostBytes; (e == api.OK) != want || e != api.OK && e != api.ErrBig {
				t.Errorf("a record of %d elements behind %d bytes: %d", size, len(got), e)
			}
			if e == api.OK {
				got, all = next, append(all, r)
			}
		}
		if !bytes.Equal(got, journalAsSaid(all)) {
			t.Errorf("cut off at %d, and filled up: %d bytes, want the journal of %d records", n, len(got), len(all))
		}
		checkRead(t, got, all)
	}
}

// checkDamage says what is read from a journal of which the byte at is changed.
func checkDamage(t *testing.T, l [][]int, odd []byte, at int) {
	t.Helper()
	ahead := within(l, at)
	got, rest, e := journal.Read(odd)
	if !equal(got, l[:ahead]) || !bytes.Equal(rest, odd[ends(l)[ahead]:]) || e != api.ErrTorn {
		t.Errorf("the byte %d is %d: %d records, a rest of %d bytes, %d, want %d records", at, odd[at], len(got), len(rest), e, ahead)
	}
	if whole := journal.Whole(odd); !bytes.Equal(whole, journalAsSaid(l[:ahead])) {
		t.Errorf("the byte %d is %d: Whole has %d bytes, want %d records", at, odd[at], len(whole), ahead)
	}
	if j, e := journal.Put(odd, []int{1}); e != api.ErrTorn || len(j) != 0 {
		t.Errorf("the byte %d is %d: Put %d bytes, %d", at, odd[at], len(j), e)
	}
}

func TestP6_5Damage(t *testing.T) {
	for _, l := range shortLists() {
		j := put(t, nil, l...)
		for at := range j {
			odd := slices.Clone(j)
			for v := range 255 {
				odd[at] = j[at] + byte(v) + 1
				checkDamage(t, l, odd, at)
			}
		}
	}
}

func TestP6_5DamageOfLong(t *testing.T) {
	l := [][]int{{3, 3}, countUp(mostElements), {}, countUp(100)}
	j := put(t, nil, l...)
	for at := range j {
		odd := slices.Clone(j)
		for _, x := range []byte{1, 1 << (at % 8), 128, 255} {
			odd[at] = j[at] ^ x
			checkDamage(t, l, odd, at)
		}
	}
}

// A journal of 65536 bytes: each byte beside the end of a record, and some others.
func TestP6_5DamageOfFull(t *testing.T) {
	l := full()
	j := put(t, nil, l...)
	r := source()
	for i, end := range ends(l)[:len(l)] {
		for _, at := range []int{end, end + 7, end + 8, end + 15, end + 16, end + r.IntN(8*len(l[i])+24), end + 8*len(l[i]) + 23} {
			odd := slices.Clone(j)
			odd[at] ^= 1 << r.IntN(8)
			checkDamage(t, l, odd, at)
		}
	}
}

func TestP6_6WholeIsJournal(t *testing.T) {
	r := source()
	check := func(b []byte) {
		t.Helper()
		l, rest, _ := journal.Read(b)
		whole := journal.Whole(b)
		if !bytes.Equal(whole, put(t, nil, l...)) || !bytes.Equal(b, slices.Concat(whole, rest)) {
			t.Errorf("of %x, %d records are read, but the complete part is %x", b, len(l), whole)
		}
		checkRead(t, whole, l)
	}
	for range 3000 {
		b := journalAsSaid(someRecords(r, 6))
		for range r.IntN(5) {
			b = spoilt(r, b)
		}
		check(b)
	}
	for n := range 400 {
		b := make([]byte, n)
		check(b)
		for i := range b {
			b[i] = byte(r.Uint32())
		}
		check(b)
		check(slices.Concat(bytesOf(uint64(n%4)), b))
	}
}

// eachSmallRecord calls f for each record of at most two of some numbers.
func eachSmallRecord(f func(r []int)) {
	numbers := []int{-1, 0, 1, 2}
	f(nil)
	for _, a := range numbers {
		f([]int{a})
		for _, b := range numbers {
			f([]int{a, b})
		}
	}
}

func TestP6_6DifferentLists(t *testing.T) {
	seen := map[string][][]int{}
	var extend func(l [][]int)
	extend = func(l [][]int) {
		j := string(put(t, nil, l...))
		if other, ok := seen[j]; ok {
			t.Errorf("%v and %v have the same journal", other, l)
		}
		seen[j] = l
		checkRead(t, []byte(j), l)
		if len(l) == 3 {
			return
		}
		eachSmallRecord(func(r []int) { extend(append(slices.Clip(l), r)) })
	}
	extend(nil)
	if len(seen) != 1+21+21*21+21*21*21 {
		t.Errorf("%d journals", len(seen))
	}
}

// calls calls every function of the package.
func calls(b []byte, r []int, n int) {
	journal.Put(b, r)
	journal.Read(b)
	journal.Whole(b)
	journal.Cut(b, n)
}

func TestF4ArgumentsStay(t *testing.T) {
	r := source()
	for range 500 {
		b := journalAsSaid(someRecords(r, 6))
		if r.IntN(2) == 0 {
			b = spoilt(r, b)
		}
		record := someRecord(r, r.IntN(300))
		b0, record0 := slices.Clone(b), slices.Clone(record)
		calls(b, record, r.IntN(len(b)+2)-1)
		if !bytes.Equal(b, b0) || !slices.Equal(record, record0) {
			t.Errorf("an argument of %d bytes and %d elements was changed", len(b), len(record))
		}
	}
}

// What is behind the end of a byte sequence is neither read nor changed.
func TestF4RoomStays(t *testing.T) {
	for _, l := range shortLists() {
		j := journalAsSaid(append(slices.Clip(l), []int{1, 2}))
		for n := range len(j) {
			room := slices.Concat(j, make([]byte, 3000))
			room0 := slices.Clone(room)
			count := within(l, n)
			checkRead(t, room[:n], l[:count])
			checkPut(t, room[:n], l[:count], []int{9, 8, 7})
			calls(room[:n], countUp(mostElements), n/2)
			if !bytes.Equal(room, room0) {
				t.Errorf("%v: the room behind %d bytes was changed", l, n)
			}
		}
	}
}

// Two journals that go on from the same one do not share what is behind it.
func TestF4PutTwice(t *testing.T) {
	for _, l := range shortLists() {
		j := slices.Grow(put(t, nil, l...), 5000)
		j = put(t, j, []int{0}) // as Put made it, with the room that it made
		one := put(t, j, []int{1, 1})
		two := put(t, j, []int{2, 2})
		if all := append(slices.Clip(l), []int{0}); !bytes.Equal(one, journalAsSaid(append(slices.Clip(all), []int{1, 1}))) || !bytes.Equal(two, journalAsSaid(append(slices.Clip(all), []int{2, 2}))) {
			t.Errorf("%v: two journals share memory", l)
		}
	}
}

// Results are memory of their own, and have no room in that of an argument or of another result.
func TestF4ResultsAreNew(t *testing.T) {
	for _, l := range shortLists() {
		j := journalAsSaid(l)
		for _, rest := range []int{0, 6} {
			room := slices.Concat(j, []byte("behind, and more"))
			room0 := slices.Clone(room)
			b := room[:len(j)+rest]
			records, left, _ := journal.Read(b)
			added, _ := journal.Put(room[:len(j)], []int{3})
			for _, result := range [][]byte{left, journal.Whole(b), journal.Cut(b, len(b)), journal.Cut(b, 0), added} {
				for i := range result {
					result[i]++
				}
				_ = append(result, 'x')
			}
			for i := range records {
				_ = append(records[i], 77)
			}
			if !bytes.Equal(room, room0) || !equal(records, l) {
				t.Errorf("%v, with a rest of %d bytes: a result shares memory", l, rest)
			}
		}
	}
}
