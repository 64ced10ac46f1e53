package digraph_test

import (
	"math"
	"math/rand/v2"
	"slices"
	"testing"

	"wireloom/api"
	"wireloom/digraph"
)

// graph is a graph, whose methods read the words of the chapter as they stand, without the program.
type graph struct {
	n     int
	edges []api.Edge
}

// made returns the graph with the edges l[0] to l[1], l[2] to l[3], and so on.
func made(n int, l ...int) graph {
	g := graph{n: n}
	for pair := range slices.Chunk(l, 2) {
		g.edges = append(g.edges, api.Edge{From: pair[0], To: pair[1]})
	}
	return g
}

// and returns the graph with another edge.
func (g graph) and(from, to int) graph {
	return graph{g.n, append(slices.Clone(g.edges), api.Edge{From: from, To: to})}
}

func (g graph) reversed() graph {
	back := graph{n: g.n}
	for _, edge := range g.edges {
		back.edges = append(back.edges, api.Edge{From: edge.To, To: edge.From})
	}
	return back
}

// shuffled returns the graph with its edges in another order, some of them repeated as long as there are at most 2000.
func (g graph) shuffled(r *rand.Rand) graph {
	l := slices.Clone(g.edges)
	for range min(len(l), 2000-len(l), 5) {
		l = append(l, l[r.IntN(len(l))])
	}
	r.Shuffle(len(l), func(i, j int) { l[i], l[j] = l[j], l[i] })
	return graph{g.n, l}
}

// table says which edges there are.
func (g graph) table() [][]bool {
	has := make([][]bool, g.n)
	for v := range has {
		has[v] = make([]bool, g.n)
	}
	for _, edge := range g.edges {
		has[edge.From][edge.To] = true
	}
	return has
}

// reaching says which nodes are reachable from which ones.
func (g graph) reaching() [][]bool {
	reach := g.table()
	for v := range g.n {
		reach[v][v] = true
	}
	for k := range g.n {
		for v := range g.n {
			for w := range g.n {
				reach[v][w] = reach[v][w] || reach[v][k] && reach[k][w]
			}
		}
	}
	return reach
}

// isOrder reports whether a list is a topological order.
func (g graph) isOrder(l []int) bool {
	sorted := slices.Sorted(slices.Values(l))
	for i, v := range sorted {
		if i != v {
			return false
		}
	}
	before := func(edge api.Edge) bool { return slices.Index(l, edge.From) < slices.Index(l, edge.To) }
	return len(l) == g.n && !slices.ContainsFunc(g.edges, func(edge api.Edge) bool { return !before(edge) })
}

// order appends the least node all of whose predecessors are in the list, as long as there is one.
func (g graph) order() ([]int, api.Errno) {
	has := g.table()
	var l []int
	free := func(v int) bool {
		for w := range g.n {
			if has[w][v] && !slices.Contains(l, w) {
				return false
			}
		}
		return !slices.Contains(l, v)
	}
	for v := 0; v < g.n; v++ {
		if free(v) {
			l = append(l, v)
			v = -1
		}
	}
	if len(l) < g.n {
		return nil, api.ErrCycle
	}
	return l, api.OK
}

// isCycle reports whether a list is a cycle.
func (g graph) isCycle(l []int) bool {
	has := g.table()
	for i, v := range l {
		if v < 0 || v >= g.n || slices.Contains(l[:i], v) {
			return false
		}
	}
	for i, v := range l {
		if !has[v][l[(i+1)%len(l)]] {
			return false
		}
	}
	return len(l) > 0
}

// eachCycle calls f for each cycle; it is for graphs with few nodes.
func (g graph) eachCycle(f func(l []int)) {
	has := g.table()
	var extend func(l []int)
	extend = func(l []int) {
		if has[l[len(l)-1]][l[0]] {
			f(l)
		}
		for w := range g.n {
			if has[l[len(l)-1]][w] && !slices.Contains(l, w) {
				extend(append(slices.Clone(l), w))
			}
		}
	}
	for v := range g.n {
		extend([]int{v})
	}
}

// cycle chooses among all cycles.
func (g graph) cycle() ([]int, api.Errno) {
	var best []int
	g.eachCycle(func(l []int) {
		if best == nil || len(l) < len(best) || len(l) == len(best) && slices.Compare(l, best) < 0 {
			best = l
		}
	})
	if best == nil {
		return nil, api.ErrNone
	}
	return best, api.OK
}

// closedPath returns the least number of edges of a closed path with at least one edge, or 0 if there is none with at most n edges.
func (g graph) closedPath() int {
	ends := make([][]bool, g.n) // to which nodes paths from v with the number of edges lead
	for v := range ends {
		ends[v] = make([]bool, g.n)
		ends[v][v] = true
	}
	for count := range g.n {
		closed := false
		for v := range ends {
			next := make([]bool, g.n)
			for _, edge := range g.edges {
				next[edge.To] = next[edge.To] || ends[v][edge.From]
			}
			ends[v] = next
			closed = closed || next[v]
		}
		if closed {
			return count + 1
		}
	}
	return 0
}

// depths raises the depths along the edges as long as that changes one; a path with n edges has a node twice.
func (g graph) depths() ([]int, api.Errno) {
	depth := make([]int, g.n)
	for changed := true; changed; {
		changed = false
		for _, edge := range g.edges {
			if depth[edge.To] <= depth[edge.From] {
				depth[edge.To] = depth[edge.From] + 1
				changed = true
			}
			if depth[edge.To] >= g.n {
				return nil, api.ErrCycle
			}
		}
	}
	return depth, api.OK
}

// classes returns the classes of strongly connected nodes.
func (g graph) classes() [][]int {
	reach := g.reaching()
	var l [][]int
	for v := range g.n {
		var class []int
		for w := range g.n {
			if reach[v][w] && reach[w][v] {
				class = append(class, w)
			}
		}
		if class[0] == v {
			l = append(l, class)
		}
	}
	return l
}

// listed returns the numbers of the elements that are true.
func listed(l []bool) []int {
	var out []int
	for i, ok := range l {
		if ok {
			out = append(out, i)
		}
	}
	return out
}

// predecessors returns the predecessors of each node, each once.
func (g graph) predecessors() [][]int {
	l := make([][]int, g.n)
	for v, to := range g.table() {
		for _, w := range listed(to) {
			l[w] = append(l[w], v)
		}
	}
	return l
}

func source() *rand.Rand { return rand.New(rand.NewPCG(5, 54)) }

// eachSmall calls test with each graph with at most four nodes and without repeated edges.
func eachSmall(test func(g graph)) {
	for n := range 5 {
		for set := range 1 << (n * n) {
			g := graph{n: n}
			for i := range n * n {
				if set>>i&1 == 1 {
					g.edges = append(g.edges, api.Edge{From: i / n, To: i % n})
				}
			}
			test(g)
		}
	}
}

// random returns a graph with n nodes and m edges, which lead forward in a hidden order, except for some.
func random(r *rand.Rand, n, m, except int) graph {
	g := graph{n: n}
	hidden := r.Perm(n)
	for range m {
		a, b := r.IntN(n), r.IntN(n)
		if a == b && r.IntN(4) > 0 {
			b = (a + 1) % n
		}
		if a > b && r.IntN(1000) >= except {
			a, b = b, a
		}
		if a == b && r.IntN(1000) >= except {
			continue
		}
		g.edges = append(g.edges, api.Edge{From: hidden[a], To: hidden[b]})
	}
	return g
}

// eachMiddle calls test with random graphs of five to eight nodes.
func eachMiddle(test func(g graph)) {
	r := source()
	for range 4000 {
		n := 5 + r.IntN(4)
		test(random(r, n, r.IntN(3*n), []int{0, 100, 300, 1000}[r.IntN(4)]))
	}
}

// ring returns the graph with one cycle of all its nodes, in a random order.
func ring(r *rand.Rand, n int) graph {
	g := graph{n: n}
	hidden := r.Perm(n)
	for i, v := range hidden {
		g.edges = append(g.edges, api.Edge{From: v, To: hidden[(i+1)%n]})
	}
	return g
}

// eachLarge calls test with random graphs of up to 200 nodes and 2000 edges, from sparse to dense, without and with cycles, short and long ones.
func eachLarge(test func(g graph)) {
	r := source()
	for _, n := range []int{20, 60, 199, 200} {
		for _, m := range []int{0, n / 2, n, 2 * n, 5 * n, 10 * n} {
			for _, except := range []int{0, 0, 2, 10, 100, 1000} {
				test(random(r, n, m, except))
			}
		}
		for _, shortcuts := range []int{0, 1, 3} {
			g := ring(r, n)
			for range shortcuts {
				g = g.and(r.IntN(n), r.IntN(n))
			}
			test(g)
			test(graph{n, g.edges[1:]})
		}
	}
}

// each calls test with all graphs of the three kinds.
func each(test func(g graph)) {
	eachSmall(test)
	eachMiddle(test)
	eachLarge(test)
}

// eachFew calls test with the same graphs but for most of those with four nodes, for tests that take longer.
func eachFew(test func(g graph)) {
	i := 0
	eachSmall(func(g graph) {
		if i++; g.n < 4 || i%31 == 0 {
			test(g)
		}
	})
	eachMiddle(test)
	eachLarge(test)
}

// calls calls every function of the package.
func calls(g graph, from int, order []int) {
	digraph.Valid(g.n, g.edges)
	digraph.Order(g.n, g.edges)
	digraph.Check(g.n, g.edges, order)
	digraph.Cycle(g.n, g.edges)
	digraph.Reach(g.n, g.edges, from)
	digraph.Depth(g.n, g.edges)
	digraph.Components(g.n, g.edges)
}

// What is not valid has unspecified results, but it stops no caller.
func TestP1NoPanic(t *testing.T) {
	numbers := []int{math.MinInt, -200, -1, 0, 1, 2, 3, 199, 200, 201, 2001, 1 << 40, math.MaxInt}
	r := source()
	some := func() int { return numbers[r.IntN(len(numbers))] }
	for _, n := range numbers {
		for range 200 {
			g := graph{n: n}
			for range r.IntN(4) {
				g.edges = append(g.edges, api.Edge{From: some(), To: some()})
			}
			var order []int
			for range r.IntN(4) {
				order = append(order, some())
			}
			calls(g, some(), order)
		}
		calls(graph{n: n, edges: make([]api.Edge, 5000)}, 0, make([]int, 5000))
	}
}
