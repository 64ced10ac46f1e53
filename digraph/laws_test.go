package digraph_test

import (
	"slices"
	"testing"

	"wireloom/api"
	"wireloom/digraph"
)

// eachPermutation calls f for each list with the numbers from 0 to n - 1 once, the least list first.
func eachPermutation(n int, f func(l []int)) {
	var extend func(l []int)
	extend = func(l []int) {
		if len(l) == n {
			f(l)
		}
		for v := range n {
			if !slices.Contains(l, v) {
				extend(append(slices.Clone(l), v))
			}
		}
	}
	extend(nil)
}

func TestP5_2OrderOrCycle(t *testing.T) {
	orders, cycles := 0, 0
	each(func(g graph) {
		order, e := digraph.Order(g.n, g.edges)
		cycle, e2 := digraph.Cycle(g.n, g.edges)
		switch {
		case e == api.OK && e2 == api.ErrNone:
			orders++
			checkCheck(t, g, order, api.OK)
			if !g.isOrder(order) || cycle != nil {
				t.Errorf("%v: order %v, cycle %v", g, order, cycle)
			}
		case e == api.ErrCycle && e2 == api.OK:
			cycles++
			if !g.isCycle(cycle) || order != nil {
				t.Errorf("%v: order %v, cycle %v", g, order, cycle)
			}
		default:
			t.Errorf("%v: Order %v, %d and Cycle %v, %d", g, order, e, cycle, e2)
		}
	})
	if orders < 1000 || cycles < 1000 {
		t.Errorf("only %d graphs with an order and %d with a cycle", orders, cycles)
	}
}

// The least permutation that Check accepts is the result of Order; where Order has none, Check accepts none.
func TestP5_2LeastOrder(t *testing.T) {
	test := func(g graph) {
		var least []int
		eachPermutation(g.n, func(l []int) {
			if least == nil && digraph.Check(g.n, g.edges, l) == api.OK {
				least = l
			}
		})
		if order, e := digraph.Order(g.n, g.edges); !slices.Equal(order, least) || g.n > 0 && (e == api.OK) != (least != nil) {
			t.Errorf("%v: Order %v, %d, the least order is %v", g, order, e, least)
		}
	}
	eachSmall(test)
	r := source()
	for range 300 {
		test(random(r, 6, r.IntN(10), 30))
	}
}

// No lesser node could stand where a node stands in the order.
func TestP5_2NoLesserNode(t *testing.T) {
	each(func(g graph) {
		order, e := digraph.Order(g.n, g.edges)
		if e != api.OK {
			return
		}
		predecessors := g.predecessors()
		for i, v := range order {
			for _, w := range order[i+1:] {
				before := func(u int) bool { return slices.Contains(order[:i], u) }
				if w < v && !slices.ContainsFunc(predecessors[w], func(u int) bool { return !before(u) }) {
					t.Errorf("%v: in the order %v, %d could stand before %d", g, order, w, v)
				}
			}
		}
	})
}

func TestP5_3NoShorterClosedPath(t *testing.T) {
	lengths := map[int]bool{}
	each(func(g graph) {
		cycle, e := digraph.Cycle(g.n, g.edges)
		if want := g.closedPath(); len(cycle) != want || (e == api.OK) != (want > 0) {
			t.Errorf("%v: Cycle %v, %d, the shortest closed path has %d edges", g, cycle, e, want)
		}
		lengths[len(cycle)] = true
	})
	for _, n := range []int{0, 1, 2, 3, 4, 5, 199, 200} {
		if !lengths[n] {
			t.Errorf("no graph whose shortest cycle has %d nodes", n)
		}
	}
}

func TestP5_3LeastOfShortest(t *testing.T) {
	several := 0
	test := func(g graph) {
		cycle, _ := digraph.Cycle(g.n, g.edges)
		count := 0
		g.eachCycle(func(l []int) {
			if len(l) < len(cycle) || len(l) == len(cycle) && slices.Compare(l, cycle) < 0 {
				t.Errorf("%v: Cycle %v, but %v is a cycle", g, cycle, l)
			}
			if len(l) == len(cycle) && slices.Min(l) == l[0] {
				count++
			}
		})
		if count > 1 {
			several++
		}
	}
	eachSmall(test)
	eachMiddle(test)
	if several < 1000 {
		t.Errorf("only %d graphs with several shortest cycles", several)
	}
}

func TestP5_4Reach(t *testing.T) {
	each(func(g graph) {
		predecessors := g.predecessors()
		for v := range g.n {
			reach := digraph.Reach(g.n, g.edges, v)
			has := make([]bool, g.n)
			for _, w := range reach {
				has[w] = true
			}
			if !has[v] || !slices.Equal(reach, listed(has)) {
				t.Errorf("%v: Reach of %d is %v", g, v, reach)
			}
			for _, edge := range g.edges {
				if has[edge.From] && !has[edge.To] {
					t.Errorf("%v: Reach of %d is %v, without %d", g, v, reach, edge.To)
				}
			}
			for _, w := range reach {
				if w != v && !slices.ContainsFunc(predecessors[w], func(u int) bool { return has[u] }) {
					t.Errorf("%v: Reach of %d is %v, with %d, but no predecessor of it", g, v, reach, w)
				}
			}
		}
	})
}

func TestP5_4Transitive(t *testing.T) {
	eachFew(func(g graph) {
		all := make([][]int, g.n)
		for v := range all {
			all[v] = digraph.Reach(g.n, g.edges, v)
		}
		for v, reach := range all {
			has := make([]bool, g.n)
			for _, w := range reach {
				has[w] = true
			}
			for _, w := range reach {
				if slices.ContainsFunc(all[w], func(u int) bool { return !has[u] }) {
					t.Errorf("%v: %d is reachable from %d, but Reach is %v and %v", g, w, v, all[w], reach)
				}
			}
		}
	})
}

func TestP5_5Depth(t *testing.T) {
	depths := 0
	each(func(g graph) {
		depth, e := digraph.Depth(g.n, g.edges)
		_, e2 := digraph.Order(g.n, g.edges)
		if e != e2 || len(depth) != g.n && e == api.OK {
			t.Fatalf("%v: Depth %v, %d, Order %d", g, depth, e, e2)
		}
		if e != api.OK {
			return
		}
		depths++
		for v, from := range g.predecessors() {
			want := 0
			for _, w := range from {
				want = max(want, depth[w]+1)
			}
			if depth[v] != want {
				t.Errorf("%v: the depths are %v, that of %d should be %d", g, depth, v, want)
			}
		}
	})
	if depths < 1000 {
		t.Errorf("only %d graphs with depths", depths)
	}
}

// Whatever the order of nodes with the same depth.
func TestP5_5Sorted(t *testing.T) {
	r := source()
	each(func(g graph) {
		depth, e := digraph.Depth(g.n, g.edges)
		if e != api.OK {
			return
		}
		for range 3 {
			l := r.Perm(g.n)
			slices.SortFunc(l, func(v, w int) int { return depth[v] - depth[w] })
			checkCheck(t, g, l, api.OK)
		}
	})
}

func TestP5_6Partition(t *testing.T) {
	each(func(g graph) {
		var all []int
		first := -1
		for _, class := range digraph.Components(g.n, g.edges) {
			if len(class) == 0 || !slices.IsSorted(class) || class[0] <= first {
				t.Fatalf("%v: class %v behind one whose least node is %d", g, class, first)
			}
			first = class[0]
			all = append(all, class...)
		}
		slices.Sort(all)
		if !slices.Equal(all, listed(slices.Repeat([]bool{true}, g.n))) {
			t.Errorf("%v: the classes have the nodes %v", g, all)
		}
	})
}

// between returns the graph of the classes: an edge for each edge that leads from one class to another one.
func between(g graph, classes [][]int) graph {
	of := make([]int, g.n)
	for i, class := range classes {
		for _, v := range class {
			of[v] = i
		}
	}
	c := graph{n: len(classes)}
	for _, edge := range g.edges {
		if from, to := of[edge.From], of[edge.To]; from != to {
			c.edges = append(c.edges, api.Edge{From: from, To: to})
		}
	}
	return c
}

func TestP5_6Between(t *testing.T) {
	each(func(g graph) {
		classes := digraph.Components(g.n, g.edges)
		c := between(g, classes)
		if order, e := digraph.Order(c.n, c.edges); e != api.OK || !c.isOrder(order) {
			t.Errorf("%v: the classes %v have the order %v, %d", g, classes, order, e)
		}
		single := len(classes) == g.n
		loop := slices.ContainsFunc(g.edges, func(edge api.Edge) bool { return edge.From == edge.To })
		if _, e := digraph.Order(g.n, g.edges); (e == api.OK) != (single && !loop) {
			t.Errorf("%v: Order is %d, the classes are %v", g, e, classes)
		}
	})
}

// Two nodes are in one class if each is in Reach of the other one.
func TestP5_6Connected(t *testing.T) {
	eachFew(func(g graph) {
		reach := make([][]bool, g.n)
		for v := range reach {
			reach[v] = make([]bool, g.n)
			for _, w := range digraph.Reach(g.n, g.edges, v) {
				reach[v][w] = true
			}
		}
		of := make([]int, g.n)
		for i, class := range digraph.Components(g.n, g.edges) {
			for _, v := range class {
				of[v] = i
			}
		}
		for v := range g.n {
			for w := range v {
				if (of[v] == of[w]) != (reach[v][w] && reach[w][v]) {
					t.Errorf("%v: classes %d and %d of %d and %d", g, of[v], of[w], v, w)
				}
			}
		}
	})
}

func TestP5_7NewEdge(t *testing.T) {
	var kept, lost int
	test := func(g graph, v, w int) {
		_, e := digraph.Order(g.n, g.and(v, w).edges)
		if slices.Contains(digraph.Reach(g.n, g.edges, w), v) {
			lost++
			if e != api.ErrCycle {
				t.Errorf("%v: Order is %d with an edge from %d to %d", g, e, v, w)
			}
		} else {
			kept++
			if e != api.OK {
				t.Errorf("%v: Order is %d with an edge from %d to %d", g, e, v, w)
			}
		}
	}
	r := source()
	each(func(g graph) {
		if _, e := digraph.Order(g.n, g.edges); e != api.OK || len(g.edges) == 2000 {
			return
		}
		if g.n > 8 {
			for range 50 {
				test(g, r.IntN(g.n), r.IntN(g.n))
			}
			return
		}
		for v := range g.n {
			for w := range g.n {
				test(g, v, w)
			}
		}
	})
	if kept < 1000 || lost < 1000 {
		t.Errorf("only %d orders kept and %d lost", kept, lost)
	}
}

func TestP5_7Reversed(t *testing.T) {
	each(func(g graph) {
		back := g.reversed()
		checkComponents(t, back, digraph.Components(g.n, g.edges))
		order, e := digraph.Order(g.n, g.edges)
		_, e2 := digraph.Order(back.n, back.edges)
		if e != e2 {
			t.Errorf("%v: Order is %d, and %d with all edges reversed", g, e, e2)
		}
		if e != api.OK {
			return
		}
		slices.Reverse(order)
		checkCheck(t, back, order, api.OK)
	})
}

// A list is a topological order if and only if the reversed list is one of the reversed graph.
func TestP5_7ReversedLists(t *testing.T) {
	eachFew(func(g graph) {
		if g.n > 4 {
			return
		}
		back := g.reversed()
		eachPermutation(g.n, func(l []int) {
			want := digraph.Check(g.n, g.edges, l)
			slices.Reverse(l)
			checkCheck(t, back, l, want)
		})
	})
}
