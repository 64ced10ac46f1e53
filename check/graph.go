package check

import "slices"

// graph has for each node the nodes that edges lead to from it.
type graph [][]int

// leads reports whether a path of at least one edge leads from v to w.
func (g graph) leads(v, w int) bool {
	return slices.Contains(g.reach(g[v]), w)
}

// reach returns the given nodes and those that are reachable from them, each of them once.
func (g graph) reach(from []int) []int {
	var found []int
	reached := make([]bool, len(g))
	add := func(nodes []int) {
		for _, v := range nodes {
			if !reached[v] {
				reached[v] = true
				found = append(found, v)
			}
		}
	}
	add(from)
	for n := 0; n < len(found); n++ {
		add(g[found[n]])
	}
	return found
}
