// Package digest is layer 1: digests, keyed tags and digest trees; see shared/doc/01-digest.md.
package digest

import "slices"

// sum is a digest that is being computed.
type sum uint64

// The beginnings of digests.
const (
	numbersBegin sum = 0x776f726473
	bytesBegin   sum = 0x6279746573
	nodeBegin    sum = 0x6e6f6465
)

// The multipliers of a step. Both are odd, so that a step loses nothing.
const (
	firstFactor  sum = 0xd6e8feb86659fd93
	secondFactor sum = 0xa0761d6478bd642f
)

// steps takes h through a step for each word.
func (h sum) steps(words ...uint64) sum {
	for _, w := range words {
		a := (h ^ sum(w)) * firstFactor
		b := a ^ a>>32
		h = b * secondFactor
	}
	return h
}

// octets is a byte sequence that is read in words.
type octets []byte

// groups yields the word of each group of 8 bytes.
func (b octets) groups(yield func(uint64) bool) {
	for group := range slices.Chunk(b, 8) {
		if !yield(group.word()) {
			return
		}
	}
}

// word returns at most 8 bytes as a word, the first byte as the lowest one.
func (b octets) word() uint64 {
	var w uint64
	for i, c := range b {
		w |= uint64(c) << (8 * i)
	}
	return w
}

// Words returns the digest of a list of numbers.
func Words(l []int) uint64 {
	h := numbersBegin
	for _, n := range l {
		h = h.steps(uint64(n))
	}
	return uint64(h.steps(uint64(len(l))))
}

// Bytes returns the digest of a byte sequence.
func Bytes(b []byte) uint64 {
	h := bytesBegin
	for w := range octets(b).groups {
		h = h.steps(w)
	}
	return uint64(h.steps(uint64(len(b))))
}

// Join returns the digest of a node over two digests.
func Join(a, b uint64) uint64 {
	return uint64(nodeBegin.steps(a, b))
}

// Tag returns the digest of a list of numbers with a key.
func Tag(key uint64, l []int) uint64 {
	return uint64(sum(key).steps(Words(l)))
}
