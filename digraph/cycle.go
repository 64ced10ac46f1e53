package digraph

import "wireloom/api"

// Cycle returns the least of the shortest cycles.
func Cycle(n int, edges []api.Edge) ([]int, api.Errno) {
	if !Valid(n, edges) {
		return nil, api.ErrArg
	}
	next, previous := successors(n, edges), predecessors(n, edges)
	var least []int
	for v := range n {
		cycle := cycleFrom(next, distances(previous, v), v)
		// Of cycles of the same length, the one with the lesser first node is found first.
		if cycle != nil && (least == nil || len(cycle) < len(least)) {
			least = cycle
		}
	}
	if least == nil {
		return nil, api.ErrNone
	}
	return least, api.OK
}

// cycleFrom returns the least of the shortest cycles that begin with v, or nil; left has the length of the shortest path from each node to v.
func cycleFrom(next [][]int, left []int, v int) []int {
	w, ok := nearest(next[v], left)
	if !ok {
		return nil
	}
	cycle := []int{v}
	for w != v {
		cycle = append(cycle, w)
		w, _ = nearest(next[w], left)
	}
	return cycle
}

// nearest returns the one of some nodes that has the least distance, the least of several, and whether any of them has a distance.
func nearest(nodes, distance []int) (int, bool) {
	best, found := 0, false
	for _, v := range nodes {
		if distance[v] == unreached {
			continue
		}
		if !found || distance[v] < distance[best] || distance[v] == distance[best] && v < best {
			best, found = v, true
		}
	}
	return best, found
}
