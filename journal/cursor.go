package journal

import (
	"iter"

	"wireloom/digest"
)

const wordBytes = 8

// encodedBytes returns how many bytes the encoding of a record with n elements has.
func encodedBytes(n int) int {
	return wordBytes * (n + 3)
}

// cursor reads a journal record by record.
type cursor struct {
	rest []byte // what follows the records that were read
	key  uint64 // of the next record
}

// behind returns the cursor behind the complete part of j.
func behind(j []byte) cursor {
	c := cursor{rest: j}
	for range c.records() {
	}
	return c
}

// records yields the records that follow, up to the first one that is not complete.
func (c *cursor) records() iter.Seq[[]int] {
	return func(yield func([]int) bool) {
		for r, ok := c.next(); ok && yield(r); r, ok = c.next() {
		}
	}
}

// next reads a record, if a complete one follows; otherwise the cursor stays where it is.
func (c *cursor) next() ([]int, bool) {
	n, ok := c.elements()
	if !ok || len(c.rest) < encodedBytes(n) {
		return nil, false
	}
	r := make([]int, n)
	for i := range r {
		r[i] = int(c.word(i + 2))
	}
	seal := c.word(n + 2)
	if seal != digest.Tag(c.key, r) {
		return nil, false
	}
	c.rest, c.key = c.rest[encodedBytes(n):], seal
	return r, true
}

// elements returns the number of elements of the record that follows, and whether it is given with its tag.
func (c *cursor) elements() (int, bool) {
	if len(c.rest) < encodedBytes(0) {
		return 0, false
	}
	n := int(c.word(0))
	if n < 0 || n > maxElements {
		return 0, false
	}
	return n, c.word(1) == digest.Tag(c.key, []int{n})
}

// word returns the word with the index i of what follows.
func (c *cursor) word(i int) uint64 {
	var w uint64
	for k, b := range c.rest[wordBytes*i : wordBytes*(i+1)] {
		w |= uint64(b) << (8 * k)
	}
	return w
}
