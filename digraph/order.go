package digraph

import (
	"slices"

	"wireloom/api"
)

// Order returns the least topological order.
func Order(n int, edges []api.Edge) ([]int, api.Errno) {
	if !Valid(n, edges) {
		return nil, api.ErrArg
	}
	const listed = -1
	next := successors(n, edges)
	missing := make([]int, n) // edges to the node from nodes that are not in the order yet, or listed
	for _, edge := range edges {
		missing[edge.To]++
	}
	order := make([]int, 0, n)
	for range n {
		v := slices.Index(missing, 0)
		if v < 0 {
			return nil, api.ErrCycle
		}
		order = append(order, v)
		missing[v] = listed
		for _, w := range next[v] {
			missing[w]--
		}
	}
	return order, api.OK
}

// Check checks a topological order.
func Check(n int, edges []api.Edge, order []int) api.Errno {
	if !Valid(n, edges) {
		return api.ErrArg
	}
	place, ok := places(n, order)
	if !ok {
		return api.ErrNot
	}
	for _, edge := range edges {
		if place[edge.From] >= place[edge.To] {
			return api.ErrNot
		}
	}
	return api.OK
}

// places returns for each node its index in a list, and whether each node is in it exactly once.
func places(n int, list []int) ([]int, bool) {
	if len(list) != n {
		return nil, false
	}
	const missing = -1
	place := make([]int, n)
	for v := range place {
		place[v] = missing
	}
	for i, v := range list {
		if !isNode(n, v) || place[v] != missing {
			return nil, false
		}
		place[v] = i
	}
	return place, true
}

// Depth returns the length of the longest path to each node.
func Depth(n int, edges []api.Edge) ([]int, api.Errno) {
	order, e := Order(n, edges)
	if e != api.OK {
		return nil, e
	}
	next := successors(n, edges)
	depth := make([]int, n)
	for _, v := range order {
		for _, w := range next[v] {
			depth[w] = max(depth[w], depth[v]+1)
		}
	}
	return depth, api.OK
}
