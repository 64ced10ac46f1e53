package digest_test

import (
	"math"
	"math/rand/v2"
	"slices"
	"testing"

	"wireloom/api"
	"wireloom/digest"
)

// split returns the number of leaves below the left digest of the last pair of a tree over n >= 2 leaves: the greatest power of two below n.
func split(n int) int {
	k := 1
	for 2*k < n {
		k *= 2
	}
	return k
}

// rootAsSaid computes a root from above instead of level by level.
func rootAsSaid(l []uint64) uint64 {
	if len(l) == 1 {
		return l[0]
	}
	k := split(len(l))
	return step(step(0x6e6f6465, rootAsSaid(l[:k])), rootAsSaid(l[k:]))
}

// pathAsSaid computes a path from above, too.
func pathAsSaid(l []uint64, i int) []uint64 {
	if len(l) == 1 {
		return nil
	}
	k := split(len(l))
	if i < k {
		return append(pathAsSaid(l[:k], i), rootAsSaid(l[k:]))
	}
	return append(pathAsSaid(l[k:], i-k), rootAsSaid(l[:k]))
}

func someDigests(r *rand.Rand, n int) []uint64 {
	l := make([]uint64, n)
	for i := range l {
		l[i] = r.Uint64()
	}
	return l
}

// eachPath calls f for each leaf of trees over 1 to 40 leaves.
func eachPath(f func(r *rand.Rand, root uint64, l []uint64, i int, path []uint64)) {
	r := source()
	for n := 1; n <= 40; n++ {
		l := someDigests(r, n)
		root := digest.Root(l)
		for i := range n {
			path, _ := digest.Path(l, i)
			f(r, root, l, i, path)
		}
	}
}

func TestP1_1Example(t *testing.T) {
	l := []uint64{5, 6, 7}
	left := digest.Join(5, 6)
	root := digest.Root(l)
	if root != digest.Join(left, 7) || root != 0xd3e975607d2ecf10 {
		t.Errorf("Root(5, 6, 7) = %x", root)
	}
	for i, want := range [][]uint64{{6, 7}, {5, 7}, {left}} {
		if got, e := digest.Path(l, i); e != api.OK || !slices.Equal(got, want) {
			t.Errorf("path of the leaf %d: %x, %d", l[i], got, e)
		}
	}
}

func TestP1_1NoLeaves(t *testing.T) {
	if got := digest.Root(nil); got != digest.Words(nil) || got != 0x61f9ec777a0c163e {
		t.Errorf("Root of no leaves: %x", got)
	}
	if got := digest.Root([]uint64{}); got != digest.Words(nil) {
		t.Errorf("Root of an empty list: %x", got)
	}
	for _, i := range []int{-1, 0, 1} {
		if got, e := digest.Path(nil, i); e != api.ErrArg || len(got) != 0 {
			t.Errorf("Path of no leaves, %d: %x, %d", i, got, e)
		}
	}
}

func TestP1_1SingleLeaf(t *testing.T) {
	for _, d := range []uint64{0, 3, math.MaxUint64} {
		if got := digest.Root([]uint64{d}); got != d {
			t.Errorf("Root of the leaf %x: %x", d, got)
		}
		if got, e := digest.Path([]uint64{d}, 0); e != api.OK || len(got) != 0 {
			t.Errorf("Path of the leaf %x: %x, %d", d, got, e)
		}
		if e := digest.Check(d, 1, api.Leaf{I: 0, D: d}, nil); e != api.OK {
			t.Errorf("Check of the leaf %x: %d", d, e)
		}
		if e := digest.Check(d+1, 1, api.Leaf{I: 0, D: d}, nil); e != api.ErrNot {
			t.Errorf("Check of the leaf %x with another root: %d", d, e)
		}
		if e := digest.Check(d, 1, api.Leaf{I: 0, D: d}, []uint64{d}); e != api.ErrNot {
			t.Errorf("Check of the leaf %x with a path: %d", d, e)
		}
	}
}

func TestP1_1Trees(t *testing.T) {
	r := source()
	sizes := []int{63, 64, 65, 100, 127, 128, 129, 1000, 4095, 4096, 4097, 5001}
	for n := 1; n <= 40; n++ {
		sizes = append(sizes, n)
	}
	for _, n := range sizes {
		l := someDigests(r, n)
		if digest.Root(l) != rootAsSaid(l) {
			t.Errorf("root over %d leaves", n)
		}
		for i := 0; i < n; i += 1 + n/50 {
			if got, e := digest.Path(l, i); e != api.OK || !slices.Equal(got, pathAsSaid(l, i)) {
				t.Errorf("path of the leaf %d of %d: error %d", i, n, e)
			}
		}
		if got, e := digest.Path(l, n-1); e != api.OK || !slices.Equal(got, pathAsSaid(l, n-1)) {
			t.Errorf("path of the last leaf of %d: error %d", n, e)
		}
	}
}

func TestP1_1NoIndex(t *testing.T) {
	r := source()
	for n := range 20 {
		l := someDigests(r, n)
		for _, i := range []int{math.MinInt, -2, -1, n, n + 1, math.MaxInt} {
			if got, e := digest.Path(l, i); e != api.ErrArg || len(got) != 0 {
				t.Errorf("Path over %d leaves, %d: %x, %d", n, i, got, e)
			}
		}
	}
}

func TestP1_1CheckArguments(t *testing.T) {
	l := []uint64{5, 6, 7}
	root := digest.Root(l)
	for _, c := range []struct {
		n, i int
		want api.Errno
	}{
		{math.MinInt, 0, api.ErrArg},
		{-1, 0, api.ErrArg},
		{0, 0, api.ErrArg},
		{1, 0, api.ErrNot},
		{2, 0, api.ErrNot},
		{3, 0, api.OK},
		{4, 0, api.OK}, // a path of the same length to the same root
		{4096, 0, api.ErrNot},
		{4097, 0, api.ErrArg},
		{math.MaxInt, 0, api.ErrArg},
		{3, math.MinInt, api.ErrArg},
		{3, -1, api.ErrArg},
		{3, 1, api.ErrNot},
		{3, 2, api.ErrNot},
		{3, 3, api.ErrArg},
		{3, math.MaxInt, api.ErrArg},
		{4096, 4095, api.ErrNot},
		{4096, 4096, api.ErrArg},
		{1, 1, api.ErrArg},
		{0, -1, api.ErrArg},
		{5000, 6000, api.ErrArg},
	} {
		if got := digest.Check(root, c.n, api.Leaf{I: c.i, D: 5}, []uint64{6, 7}); got != c.want {
			t.Errorf("Check with n %d and the index %d: %d, want %d", c.n, c.i, got, c.want)
		}
	}
}

// More leaves than the limit have a root and paths, but no path is accepted for them.
func TestP1_1AboveLimit(t *testing.T) {
	l := someDigests(source(), api.MaxLeaves+1)
	root := digest.Root(l)
	path, e := digest.Path(l, 0)
	if e != api.OK || len(path) != 13 {
		t.Errorf("Path: %d digests, %d", len(path), e)
	}
	if e := digest.Check(root, len(l), api.Leaf{I: 0, D: l[0]}, path); e != api.ErrArg {
		t.Errorf("Check: %d", e)
	}
}

func TestP1_1OtherRoot(t *testing.T) {
	eachPath(func(r *rand.Rand, root uint64, l []uint64, i int, path []uint64) {
		if e := digest.Check(root^1<<r.IntN(64), len(l), api.Leaf{I: i, D: l[i]}, path); e != api.ErrNot {
			t.Errorf("another root over %d leaves, leaf %d: %d", len(l), i, e)
		}
	})
}

func TestP1_3Accepted(t *testing.T) {
	eachPath(func(_ *rand.Rand, root uint64, l []uint64, i int, path []uint64) {
		if e := digest.Check(root, len(l), api.Leaf{I: i, D: l[i]}, path); e != api.OK {
			t.Errorf("leaf %d of %d: %d", i, len(l), e)
		}
	})
}

func TestP1_3AcceptedUpToLimit(t *testing.T) {
	r := source()
	for _, n := range []int{255, 256, 257, 3000, 4095, 4096} {
		l := someDigests(r, n)
		root := digest.Root(l)
		for _, i := range []int{0, 1, n/2 - 1, n / 2, n - 2, n - 1} {
			path, e := digest.Path(l, i)
			if e != api.OK {
				t.Errorf("Path of the leaf %d of %d: %d", i, n, e)
			}
			if e := digest.Check(root, n, api.Leaf{I: i, D: l[i]}, path); e != api.OK {
				t.Errorf("Check of the leaf %d of %d: %d", i, n, e)
			}
		}
	}
}

// Equal leaves make equal digests beside each other.
func TestP1_3EqualLeaves(t *testing.T) {
	for n := 1; n <= 33; n++ {
		l := make([]uint64, n)
		root := digest.Root(l)
		for i := range l {
			path, _ := digest.Path(l, i)
			if e := digest.Check(root, n, api.Leaf{I: i}, path); e != api.OK {
				t.Errorf("leaf %d of %d: %d", i, n, e)
			}
		}
	}
}

func TestP1_4OtherLeaf(t *testing.T) {
	eachPath(func(_ *rand.Rand, root uint64, l []uint64, i int, path []uint64) {
		for bit := range 64 {
			if e := digest.Check(root, len(l), api.Leaf{I: i, D: l[i] ^ 1<<bit}, path); e != api.ErrNot {
				t.Errorf("leaf %d of %d with bit %d inverted: %d", i, len(l), bit, e)
			}
		}
	})
}

func TestP1_4OneChanged(t *testing.T) {
	eachPath(func(r *rand.Rand, root uint64, l []uint64, i int, path []uint64) {
		for k := range path {
			for _, d := range []uint64{path[k] ^ 1<<r.IntN(64), path[k] + 1, ^path[k], r.Uint64()} {
				other := slices.Clone(path)
				other[k] = d
				if e := digest.Check(root, len(l), api.Leaf{I: i, D: l[i]}, other); e != api.ErrNot {
					t.Errorf("leaf %d of %d with the digest %d changed: %d", i, len(l), k, e)
				}
			}
		}
	})
}

func TestP1_4OneMoreOrLess(t *testing.T) {
	eachPath(func(r *rand.Rand, root uint64, l []uint64, i int, path []uint64) {
		leaf := api.Leaf{I: i, D: l[i]}
		for k := range len(path) + 1 {
			for _, d := range []uint64{0, root, l[i], r.Uint64()} {
				if e := digest.Check(root, len(l), leaf, slices.Insert(slices.Clone(path), k, d)); e != api.ErrNot {
					t.Errorf("leaf %d of %d with a digest more at %d: %d", i, len(l), k, e)
				}
			}
		}
		for k := range path {
			if e := digest.Check(root, len(l), leaf, slices.Delete(slices.Clone(path), k, k+1)); e != api.ErrNot {
				t.Errorf("leaf %d of %d without the digest %d: %d", i, len(l), k, e)
			}
		}
	})
}

// A path of another length is refused even if all of its digests lead to the root.
func TestP1_4LengthAlone(t *testing.T) {
	eachPath(func(r *rand.Rand, root uint64, l []uint64, i int, path []uint64) {
		if len(path) == 0 {
			return
		}
		leaf := api.Leaf{I: i, D: l[i]}
		above := digest.Check(digest.Join(root, 8), len(l), leaf, append(slices.Clone(path), 8))
		below := digest.Check(l[i], len(l), leaf, nil)
		if above != api.ErrNot || below != api.ErrNot {
			t.Errorf("leaf %d of %d: %d, %d", i, len(l), above, below)
		}
	})
}

func TestP1_5OneLeafChanged(t *testing.T) {
	eachPath(func(r *rand.Rand, root uint64, l []uint64, i int, path []uint64) {
		for _, d := range []uint64{l[i] ^ 1<<r.IntN(64), l[i] + 1, ^l[i]} {
			other := slices.Clone(l)
			other[i] = d
			if digest.Root(other) == root {
				t.Errorf("the root over %d leaves does not depend on the leaf %d", len(l), i)
			}
			if got, e := digest.Path(other, i); e != api.OK || !slices.Equal(got, path) {
				t.Errorf("the path of the leaf %d of %d depends on the leaf", i, len(l))
			}
		}
	})
}

// pairs lists the pairs of digests that are joined on the way from a leaf to the root, and the levels on which they are.
func pairs(n int, leaf api.Leaf, path []uint64) (joined [][2]uint64, levels []int) {
	d, i := leaf.D, leaf.I
	for level := 0; n > 1; level++ {
		if i%2 == 1 || i+1 < n {
			pair := [2]uint64{d, path[0]}
			if i%2 == 1 {
				pair = [2]uint64{path[0], d}
			}
			joined, levels = append(joined, pair), append(levels, level)
			d, path = step(step(0x6e6f6465, pair[0]), pair[1]), path[1:]
		}
		n, i = (n+1)/2, i/2
	}
	return joined, levels
}

// colliding returns the pair with another digest beside d that has the same Join; left says that d is the left one of its pair.
func colliding(pair [2]uint64, d uint64, left bool) [2]uint64 {
	if left {
		return [2]uint64{d, pair[1] ^ step(0x6e6f6465, pair[0]) ^ step(0x6e6f6465, d)}
	}
	a := unstep(step(0x6e6f6465, pair[0]) ^ pair[1] ^ d)
	return [2]uint64{a ^ 0x6e6f6465, d}
}

// unstep returns the word with which a step from 0 leads to h.
func unstep(h uint64) uint64 {
	b := h * inverse(0xa0761d6478bd642f)
	return (b ^ b>>32) * inverse(0xd6e8feb86659fd93)
}

// inverse returns the number by which an odd number is multiplied to 1; each round doubles the number of right bits.
func inverse(a uint64) uint64 {
	x := a
	for range 6 {
		x *= 2 - a*x
	}
	return x
}

// bound reports whether the promise holds for two accepted pairs of a leaf and a path.
func bound(n int, a, b api.Leaf, p, q []uint64) bool {
	if a == b && slices.Equal(p, q) {
		return true
	}
	one, _ := pairs(n, a, p)
	two, _ := pairs(n, b, q)
	for k := range one {
		if one[k] != two[k] && digest.Join(one[k][0], one[k][1]) == digest.Join(two[k][0], two[k][1]) {
			return true
		}
	}
	return false
}

// Another leaf is accepted with a path that was made to collide on its first level, and this collision is there.
func TestP1_6Colliding(t *testing.T) {
	eachPath(func(r *rand.Rand, root uint64, l []uint64, i int, path []uint64) {
		if len(path) == 0 {
			return
		}
		leaf := api.Leaf{I: i, D: l[i]}
		other := api.Leaf{I: i, D: r.Uint64()}
		joined, levels := pairs(len(l), leaf, path)
		left := i>>levels[0]%2 == 0
		made := colliding(joined[0], other.D, left)
		forged := slices.Clone(path)
		forged[0] = made[0]
		if left {
			forged[0] = made[1]
		}
		if e := digest.Check(root, len(l), other, forged); e != api.OK {
			t.Errorf("leaf %d of %d: a colliding path has the error %d", i, len(l), e)
		}
		if !bound(len(l), leaf, other, path, forged) {
			t.Errorf("leaf %d of %d: two paths are accepted without a collision", i, len(l))
		}
	})
}

// What is accepted beside the path itself, among leaves and paths of the same tree, must collide somewhere.
func TestP1_6Accepted(t *testing.T) {
	for n := 1; n <= 9; n++ {
		l := make([]uint64, n)
		for i := range l {
			l[i] = uint64(i % 3)
		}
		root := digest.Root(l)
		for i := range n {
			leaf := api.Leaf{I: i, D: l[i]}
			path, _ := digest.Path(l, i)
			eachOther(l, path, func(d uint64, other []uint64) {
				with := api.Leaf{I: i, D: d}
				if digest.Check(root, n, with, other) != api.OK {
					return
				}
				if len(other) != len(path) || !bound(n, leaf, with, path, other) {
					t.Errorf("leaf %d of %d: %x with %x is accepted", i, n, d, other)
				}
			})
		}
	}
}

// eachOther calls f with each leaf of a tree, and with each path of it and each path in which digests of such paths were exchanged.
func eachOther(l, path []uint64, f func(d uint64, path []uint64)) {
	for _, d := range l {
		for j := range l {
			p, _ := digest.Path(l, j)
			f(d, p)
			for k := range path {
				for _, x := range p {
					other := slices.Clone(path)
					other[k] = x
					f(d, other)
				}
			}
		}
	}
}

func TestA4TreesStay(t *testing.T) {
	eachPath(func(_ *rand.Rand, root uint64, l []uint64, i int, path []uint64) {
		l0, path0 := slices.Clone(l), slices.Clone(path)
		digest.Root(l)
		digest.Path(l, i)
		digest.Check(root, len(l), api.Leaf{I: i, D: l[i]}, path)
		digest.Check(root, len(l), api.Leaf{I: i, D: l[i] + 1}, path)
		if !slices.Equal(l, l0) || !slices.Equal(path, path0) {
			t.Errorf("leaf %d of %d: an argument was changed", i, len(l))
		}
	})
}

// A path is memory of its own.
func TestA4PathIsNew(t *testing.T) {
	eachPath(func(_ *rand.Rand, _ uint64, l []uint64, i int, _ []uint64) {
		l0 := slices.Clone(l)
		path, _ := digest.Path(l, i)
		for k := range path {
			path[k]++
		}
		if !slices.Equal(l, l0) {
			t.Errorf("leaf %d of %d: a change of the path changes the leaves", i, len(l))
		}
	})
}
