package digest

import (
	"slices"

	"wireloom/api"
)

// Root returns the root of the tree over leaves.
func Root(l []uint64) uint64 {
	if len(l) == 0 {
		return Words(nil)
	}
	level := l
	for len(level) > 1 {
		level = nextLevel(level)
	}
	return level[0]
}

// nextLevel returns the level above a level.
func nextLevel(level []uint64) []uint64 {
	next := make([]uint64, 0, nextWidth(len(level)))
	for pair := range slices.Chunk(level, 2) {
		if len(pair) == 1 {
			next = append(next, pair[0])
		} else {
			next = append(next, Join(pair[0], pair[1]))
		}
	}
	return next
}

// nextWidth returns how many digests are above a level of a width.
func nextWidth(width int) int {
	return width/2 + width%2
}

// partner returns the index of the digest that the one at i is joined with, and whether there is one on a level of a width.
func partner(i, width int) (int, bool) {
	p := i ^ 1
	return p, p < width
}

// Path returns the path of a leaf.
func Path(l []uint64, i int) ([]uint64, api.Errno) {
	if i < 0 || i >= len(l) {
		return nil, api.ErrArg
	}
	var path []uint64
	for level := l; len(level) > 1; level = nextLevel(level) {
		if p, ok := partner(i, len(level)); ok {
			path = append(path, level[p])
		}
		i /= 2
	}
	return path, api.OK
}

// Check tests whether a path leads from a leaf to the root of a tree over n leaves.
func Check(root uint64, n int, leaf api.Leaf, path []uint64) api.Errno {
	if n < 1 || n > api.MaxLeaves || leaf.I < 0 || leaf.I >= n {
		return api.ErrArg
	}
	d, i := leaf.D, leaf.I
	for width := n; width > 1; width = nextWidth(width) {
		if p, ok := partner(i, width); ok {
			if len(path) == 0 {
				return api.ErrNot
			}
			d = joinBeside(d, path[0], p < i)
			path = path[1:]
		}
		i /= 2
	}
	if len(path) > 0 || d != root {
		return api.ErrNot
	}
	return api.OK
}

// joinBeside returns the join of a digest and its partner, which is on its left or on its right.
func joinBeside(d, partner uint64, left bool) uint64 {
	if left {
		return Join(partner, d)
	}
	return Join(d, partner)
}
